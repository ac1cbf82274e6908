/- Get, All. -/
import Derived.Test.YtjgclehghnmhnaaDoorLfK
namespace Go.Proofs.YtjgclehghnmhnaaDoor
open Go Go.RowKit

def getV (xs : List Ac) (i : Int) : Ac := (fndA xs i).getD zA
def getB (xs : List Ac) (i : Int) : Bool := (fndA xs i).isSome
theorem results_acL {fn : Func} {p q : Tmp} (h : fn.results = #[.cell p 44, .tmp q]) (tmps : Array Value) (w : World) (g : Nat) (e : Ac) (b : Bool) (hp : tmps.getD p undef = .pointer (some ⟨g, 0, none⟩)) (hq : tmps.getD q undef = .bool b) (hc : w.rangeAt g 0 (c16 e)) : (results fn tmps).run Tryd.prog w = .ok (.tuple #[.agg (acA e), .bool b]) w := by
  have hp' : tmps[p]?.getD undef = .pointer (some ⟨g, 0, none⟩) := by simpa using hp
  have hq' : tmps[q]?.getD undef = .bool b := by simpa using hq
  have hl := run_loadVar_mid (P := Tryd.prog) w g 0 44 (c16 e) _ hc Tryd.underlying44 rfl size16L
  simp [results, h, hp', hq', asAddr, hl]
  rfl
theorem Cel.range {W : World} {b : Nat} {t : TypeId} {a : Ac} (h : Cel W b (acA a) t) : W.rangeAt b 0 (c16 a) := fun j v hv => by
  rw [Nat.zero_add]
  exact h.cell (by simpa [acA, c16] using hv)
theorem zA_A : acA zA = #[.int .i64 0, .int .i64 0, .int .i64 0, .int .i64 0, .int .i64 0, .int .i64 0, .int .i64 0, .int .i64 0, .int .i64 0, .int .i64 0, .int .i64 0, .int .i64 0, .int .i64 0, .int .i64 0, .int .i64 0, .int .i64 0] := rfl

section
variable {w : World} {B S G M N : Nat} {pb : Int → Nat} {σ : Sta}
set_option maxHeartbeats 1000000 in
set_option maxRecDepth 100000 in
theorem get_tm (h : TM w B S G M N pb σ) {i : Int} (hi : In64 i) :
    Calls Tryd.prog 17 #[.pointer (some ⟨B, 0, none⟩), .int .i64 i] w fun e w' => e = .returned (.tuple #[.agg (acA (getV σ.xs i)), .bool (getB σ.xs i)]) ∧ Below w.heap.size w w' := by
  have ba : Below w.heap.size w (w.alloc (.cells (acA zA) 44)) := (Below.refl _ _).alloc (Nat.le_refl _) _
  have hM := tmade (h.below ba)
  have c1 := (h.below ba).c1
  have hL := (h.below ba).m.look hi
  have hz := Cel.new w (acA zA) 44
  have hth := hz.there
  unfold getV getB
  cases hf : fndA σ.xs i with
  | none =>
    rw [show fB pb σ.xs i = none by unfold fB; rw [hf]; rfl] at hL
    simp only [ptr, Option.isSome_none] at hL
    have hfin := (hz.ac zA).range
    have hb2 : Below w.heap.size w ((w.alloc (.cells (acA zA) 44)).setCells w.heap.size 0 (c16 zA)) := ba.trans ((But.setCells (c16 zA) 0 _).below ba.size (by simp))
    clear hz hf ba
    simp only [Option.getD_none, Option.isSome_none]
    rw [zA_A] at hM c1 hL hth hfin hb2
    go_enter Tryd.func17, Tryd.ntmps17
    go_upto_region 5 with (go_at_call 40; refine hM.mono ?_; rintro e w' ⟨rfl, hw⟩; subst w')
    refine wp_region_lit ?_
    iterate 3 go_step
    refine wpList_store_mid rfl 44 (.tmp 4) (.tmp 23) rfl w.heap.size 0 (c16 zA).toArray rfl rfl hth size16L (c16_one _) ?_
    rw [show (c16 zA).toArray.toList = c16 zA from rfl]
    generalize World.setCells _ w.heap.size 0 (c16 zA) = wf at *
    go_wp2_with fail
    exact bodyPost_ret (results_acL rfl _ _ w.heap.size zA false rfl rfl hfin) rfl ⟨rfl, hb2⟩
  | some a =>
    obtain ⟨ha, rfl⟩ := fnd_some hf
    rw [fB_some h.ok ha] at hL
    simp only [ptr, Option.isSome_some] at hL
    have hfin := (hz.ac a).range
    have hr := ((h.a a ha).below ba).range
    have hb2 : Below w.heap.size w ((w.alloc (.cells (acA zA) 44)).setCells w.heap.size 0 (c16 a)) := ba.trans ((But.setCells (c16 a) 0 _).below ba.size (by simp))
    clear hz hf ba ha
    simp only [Option.getD_some, Option.isSome_some]
    rw [zA_A] at hM c1 hL hth hfin hb2 hr
    go_enter Tryd.func17, Tryd.ntmps17
    go_upto_region 6 with (go_at_call 40; refine hM.mono ?_; rintro e w' ⟨rfl, hw⟩; subst w')
    refine wp_region_lit ?_
    iterate 6 go_step
    refine wpList_load_mid rfl 44 (.tmp 25) rfl (pb a.id) 0 rfl (c16 a) _ hr Tryd.underlying44 rfl size16L ?_
    refine wpList_store_mid rfl 44 (.tmp 4) (.tmp 26) rfl w.heap.size 0 (c16 a).toArray rfl rfl hth size16L (c16_one _) ?_
    rw [show (c16 a).toArray.toList = c16 a from rfl]
    generalize World.setCells _ w.heap.size 0 (c16 a) = wf at *
    go_wp2_with fail
    exact bodyPost_ret (results_acL rfl _ _ w.heap.size a true rfl rfl hfin) rfl ⟨rfl, hb2⟩

set_option maxHeartbeats 2000000 in
set_option maxRecDepth 100000 in
theorem all_tm (h : TM w B S G M N pb σ) :
    Calls Tryd.prog 14 #[.pointer (some ⟨B, 0, none⟩)] w fun e w' => ∃ v, e = .returned v ∧ OwA 44 w' w.heap.size v σ.xs ∧ Below w.heap.size w w' := by
  have hM := tmade h
  have c0 := h.c0
  have hA := all_any h.s
  have hlen : σ.xs.length ≤ 4096 := Nat.le_trans h.ok.len h.ok.n4
  obtain ⟨n, hN⟩ : ∃ n, Hid (σ.xs.length = n) := ⟨_, rfl⟩
  have hn' : n ≤ 4096 := by rw [← hN.out]; exact hlen
  rw [h.ok.ids] at hA
  clear hlen
  go_enter Tryd.func14, Tryd.ntmps14
  go_wp2_with (first
    | (go_at_call 40; refine hM.mono ?_; rintro e w' ⟨rfl, hw⟩; subst w')
    | (go_at_call 41; refine hA.mono ?_; rintro e w1 ⟨v, rfl, hv, hB1⟩; obtain ⟨ra, rc, rfl, hrd⟩ := hv.open'; rw [List.length_map, hN.out]))
  clear hv
  go_loopw [3, 15, 5] (fun s v _ wr => ∃ j : Nat, j ≤ n ∧ v = .int .i64 j ∧ OwA 44 wr w1.heap.size s (σ.xs.take j) ∧ Below w1.heap.size w1 wr) (fun _ v _ _ => 4096 - (intOf v).toNat)
  case atStart => exact ⟨0, Nat.zero_le _, rfl, OwA.nil _ _, Below.refl _ _⟩
  case round =>
    obtain ⟨j, hj, rfl, ho, hb⟩ := hrel
    have hBw : Below w.heap.size w wr := hB1.trans (hb.mono hB1.size)
    by_cases hlt : j < n
    · have hjx : j < σ.xs.length := by rw [hN.out]; exact hlt
      obtain ⟨g, hg, hgc⟩ := hrd j (ac σ.xs j).id (by rw [List.getElem?_map, ac_get hjx]; rfl)
      subst hg
      have hgc' := cell_on hb hgc
      have hlt' : (j : Int) < (n : Int) := by omega
      have hmw := h.below hBw
      have cB := hmw.c1
      have hax := ac_mem hjx
      have hL := hmw.m.look1 (fB_some h.ok hax)
      obtain ⟨d0, d1, d2, d3, d4, d5, d6, d7, d8, d9, d10, d11, d12, d13, d14, d15⟩ := (show At16 wr (pb (ac σ.xs j).id) 0 (ac σ.xs j) from (hmw.a _ hax).range).cells
      have ba : Below w1.heap.size w1 (wr.alloc (.cells (acA (ac σ.xs j)) 44)) := hb.alloc hb.size _
      have hav := av_one wr (ac σ.xs j) 44
      have hoa := ho.below ((Below.refl _ wr).alloc (Nat.le_refl _) (.cells (acA (ac σ.xs j)) 44))
      have HT : Hid (σ.xs.take (j + 1) = σ.xs.take j ++ [ac σ.xs j]) := by
        rw [List.take_add_one, ac_get hjx]
        rfl
      have hl2 : (σ.xs.take j).length + 1 ≤ 100000 := by rw [List.length_take]; omega
      have hsz : w1.heap.size ≤ (wr.alloc (.cells (acA (ac σ.xs j)) 44)).heap.size := ba.size
      clear hgc hmw hax hjx
      unfold acA at *
      generalize ac σ.xs j = x at *
      go_wp2_with (first
        | (at_builtin; refine wpList_appA tyL rfl _ _ rfl w1.heap.size _ _ rfl hoa _ _ _ [x] rfl rfl hav hl2 hsz ?_; intro v3 w3 ho3 hg3 hs3; have b3 := below_grown ba hg3 hoa hsz)
        | go_in)
      go_roundw
      case rel => exact ⟨j + 1, by omega, by simp, by rw [HT.out]; exact ho3, b3⟩
      case measure =>
        simp [intOf]
        omega
    · obtain rfl : j = n := by omega
      have HT : Hid (σ.xs.take j = σ.xs) := List.take_of_length_le (by rw [hN.out]; exact Nat.le_refl _)
      go_wp2_with fail
      go_ret
      exact ⟨_, rfl, by rw [HT.out] at ho; exact ho.lower hB1.size, hBw⟩
end
section
variable {w : World} {B N : Nat} {T : List Nat} {σ : Sta}
theorem get_any (h : TQ w B T N σ) {i : Int} (hi : In64 i) :
    Calls Tryd.prog 17 #[.pointer (some ⟨B, 0, none⟩), .int .i64 i] w fun e w' => e = .returned (.tuple #[.agg (acA (getV σ.xs i)), .bool (getB σ.xs i)]) ∧ Below w.heap.size w w' := by
  obtain ⟨S, G, M, pb, rfl, hm⟩ := h
  exact get_tm hm hi
theorem tall_any (h : TQ w B T N σ) :
    Calls Tryd.prog 14 #[.pointer (some ⟨B, 0, none⟩)] w fun e w' => ∃ v, e = .returned v ∧ OwA 44 w' w.heap.size v σ.xs ∧ Below w.heap.size w w' := by
  obtain ⟨S, G, M, pb, rfl, hm⟩ := h
  exact all_tm hm
theorem tcount_any (h : TQ w B T N σ) (sp st : Int) :
    Calls Tryd.prog 15 #[.pointer (some ⟨B, 0, none⟩), .int .i64 sp, .int .i64 st] w fun e w' => e = .returned (.int .i64 (cntA σ.xs sp st)) ∧ Below w.heap.size w w' := by
  obtain ⟨S, G, M, pb, rfl, hm⟩ := h
  exact count_any hm sp st
end
end Go.Proofs.YtjgclehghnmhnaaDoor
