/- Drop. -/
/- The document's example. -/
import Derived.Test.YtjgclehghnmhnaaDoorLfC
import Derived.Test.YtjgclehghnmhnaaDoorJ11LCopies
import Derived.Test.YtjgclehghnmhnaaDoorJ04LCopies
import Derived.Test.YtjgclehghnmhnaaDoorLfH
namespace Go.Proofs.YtjgclehghnmhnaaDoor
open Go Go.RowKit

section
variable {w : World} {B N : Nat} {T : List Nat} {σ : Sta}
theorem drpN_le (sp : Int) (xs : List Ac) : drpN sp xs ≤ xs.length := List.length_filter_le _ _
theorem drpN_cons (sp : Int) (a : Ac) (r : List Ac) : drpN sp (a :: r) = (if a.sp = sp then 1 else 0) + drpN sp r := by
  unfold drpN
  rw [List.filter_cons]
  by_cases h : a.sp = sp
  · simp [h, Nat.add_comm]
  · simp [h]
theorem drpS_cons (sp : Int) (a : Ac) (r : List Ac) (s : Sta) : drpS sp (a :: r) s = drpS sp r (if a.sp = sp then endS s a.id else s) := rfl
set_option maxHeartbeats 2000000 in
set_option maxRecDepth 100000 in
theorem drop_any (h : TQ w B T N σ) (sp : Int) :
    Calls Tryd.prog 28 #[.pointer (some ⟨B, 0, none⟩), .int .i64 sp] w fun e w' => e = .returned (.int .i64 (drpN sp σ.xs)) ∧ ∃ T', TQ w' B T' N (drpS sp σ.xs σ) ∧ Step T w T' w' := by
  obtain ⟨S, G, M, pb, rfl, hm⟩ := h
  have hM := tmade hm
  have c0 := hm.c0
  have hA := all_any hm.s
  have hlen : σ.xs.length ≤ 4096 := Nat.le_trans hm.ok.len hm.ok.n4
  obtain ⟨n, hN⟩ : ∃ n, Hid (σ.xs.length = n) := ⟨_, rfl⟩
  have hn' : n ≤ 4096 := by rw [← hN.out]; exact hlen
  rw [hm.ok.ids] at hA
  clear hlen
  go_enter Tryd.func28, Tryd.ntmps28
  go_wp2_with (first
    | (go_at_call 40; refine hM.mono ?_; rintro e w' ⟨rfl, hw⟩; subst w')
    | (go_at_call 41; refine hA.mono ?_; rintro e w1 ⟨v, rfl, hv, hB1⟩; have hvl := hv.lt; obtain ⟨ra, rc, rfl, hrd⟩ := hv.open'; rw [List.length_map, hN.out]))
  clear hv hA hM
  have hS1 : Step (bT B S G M pb σ.xs) w (bT B S G M pb σ.xs) w1 := Step.keep (.of_below hB1)
  go_loopw [5, 17, 7] (fun s v _ wr => ∃ (j k : Nat) (τ : Sta), j ≤ n ∧ v = .int .i64 j ∧ s = .int .i64 k ∧ TM wr B S G M N pb τ ∧ Step (bT B S G M pb σ.xs) w1 (bT B S G M pb τ.xs) wr ∧ drpS sp (σ.xs.drop j) τ = drpS sp σ.xs σ ∧ k + drpN sp (σ.xs.drop j) = drpN sp σ.xs ∧ ∀ a ∈ σ.xs.drop j, a ∈ τ.xs) (fun _ v _ _ => 4096 - (intOf v).toNat)
  case atStart => exact ⟨0, 0, σ, Nat.zero_le _, rfl, rfl, hm.below hB1, Step.refl _ _, rfl, by simp, fun a ha => ha⟩
  case round =>
    obtain ⟨j, k, τ, hj, rfl, rfl, hmr, hst, hd, hk, hin⟩ := hrel
    have HD := Hid.mk hd
    have HK := Hid.mk hk
    have HI : Hid (∀ a ∈ σ.xs.drop j, a ∈ τ.xs) := hin
    have hkl : k ≤ 4096 := by
      have := drpN_le sp σ.xs
      have := hN.out
      omega
    clear hd hk hin
    by_cases hlt : j < n
    · have hjx : j < σ.xs.length := by rw [hN.out]; exact hlt
      have hdr := ac_drop hjx
      obtain ⟨g, hg, hgc⟩ := hrd j (ac σ.xs j).id (by rw [List.getElem?_map, ac_get hjx]; rfl)
      subst hg
      have hgn : g ∉ bT B S G M pb σ.xs := fun hx => by
        have := hm.lt hx
        have := (hvl g rfl).1
        omega
      have hgc' := hst.but.cell' hgc hgn
      have hlt' : (j : Int) < (n : Int) := by omega
      have cB := hmr.c1
      have hax : ac σ.xs j ∈ τ.xs := HI.out _ (by rw [hdr]; simp)
      have hL := hmr.m.look1 (fB_some hmr.ok hax)
      have d2 : wr.cell? ⟨pb (ac σ.xs j).id, 2, none⟩ = some (.int .i64 (ac σ.xs j).sp) := (hmr.a _ hax).cell (j := 2) rfl
      have hnx : Hid (∀ a ∈ σ.xs.drop (j + 1), a ∈ τ.xs ∧ a.id ≠ (ac σ.xs j).id) := fun a ha => by
        refine ⟨HI.out _ (by rw [hdr]; exact List.mem_cons_of_mem _ ha), ?_⟩
        have hsd : Srt (σ.xs.drop j) := List.Pairwise.sublist (List.drop_sublist _ _) hm.ok.srt
        rw [hdr] at hsd
        have := (List.pairwise_cons.1 hsd).1 a ha
        omega
      have hE := end_any hmr hax
      have hw1 : IntKind.i64.wrap ((k : Int) + 1) = ((k + 1 : Nat) : Int) := by rw [IntKind.wrap_i64]; omega
      have hd1 := HD.out
      have hk1 := HK.out
      rw [hdr] at hd1 hk1
      rw [drpN_cons] at hk1
      rw [drpS_cons] at hd1
      clear hgc hjx hdr hax
      by_cases hp : (ac σ.xs j).sp = sp
      · have hp' : ((ac σ.xs j).sp == sp) = true := by simpa using hp
        rw [if_pos hp] at hd1 hk1
        have HD1 := Hid.mk hd1
        have HK1 := Hid.mk hk1
        clear hp hd1 hk1
        generalize ac σ.xs j = x at *
        go_wp2_with (first
          | (go_at_call 54; (with_reducible refine hE.mono ?_); rintro e w2 ⟨rfl, h2, b2⟩)
          | go_in)
        go_roundw
        case rel => exact ⟨j + 1, k + 1, endS τ x.id, by omega, by simp, by simp, h2, hst.trans b2, HD1.out, by have := HK1.out; omega, fun a ha => mem_remA.2 (hnx.out a ha)⟩
        case measure =>
          simp [intOf]
          omega
      · have hp' : ((ac σ.xs j).sp == sp) = false := by simpa using hp
        rw [if_neg hp] at hd1 hk1
        have HD1 := Hid.mk hd1
        have HK1 := Hid.mk hk1
        clear hp hd1 hk1 hE
        generalize ac σ.xs j = x at *
        go_wp2_with fail
        go_roundw
        case rel => exact ⟨j + 1, k, τ, by omega, by simp, rfl, hmr, hst, HD1.out, by have := HK1.out; omega, fun a ha => (hnx.out a ha).1⟩
        case measure =>
          simp [intOf]
          omega
    · obtain rfl : j = n := by omega
      have hd1 := HD.out
      have hk1 := HK.out
      rw [List.drop_eq_nil_of_le (by rw [hN.out]; exact Nat.le_refl _)] at hd1 hk1
      have HD1 : Hid (τ = drpS sp σ.xs σ) := hd1
      have HK1 : Hid (k = drpN sp σ.xs) := hk1
      clear hd1 hk1
      go_wp2_with fail
      go_ret
      refine ⟨by rw [← HK1.out]; rfl, bT B S G M pb τ.xs, ⟨S, G, M, pb, by rw [← HD1.out], by rw [← HD1.out]; exact hmr⟩, hS1.trans hst⟩
end
end Go.Proofs.YtjgclehghnmhnaaDoor
namespace Go.Proofs.YtjgclehghnmhnaaDoor
open Go Go.RowKit

def lf0 : Sta := ⟨List.replicate 4 0, List.replicate 4 false, []⟩
def lf1 : Sta := ⟨[1, 0, 0, 0], [true, false, false, false], [newA 65536 1]⟩
def lf2 : Sta := ⟨[1, 0, 0, 0], [true, false, false, false], [runF 2 (newA 65536 1)]⟩
def lf3 : Sta := ⟨[1, 0, 0, 0], [true, false, false, false], [lodF 7 (runF 2 (newA 65536 1))]⟩
def lf4 : Sta := ⟨[1, 0, 0, 0], [true, false, false, false], [blkF (lodF 7 (runF 2 (newA 65536 1)))]⟩
theorem lfm : mkI lf0 1 = 65536 ∧ mkE lf0 1 = 0 ∧ mkS lf0 1 = lf1 := ⟨by decide, by decide, rfl⟩
theorem lfr : opE 1 (runK lf1.xs 2) lf1.xs 65536 = 0 ∧ opS 1 (runK lf1.xs 2) (runF 2) lf1 65536 = lf2 := ⟨by decide, rfl⟩
theorem lfl : opE 2 (lodK 7) lf2.xs 65536 = 0 ∧ opS 2 (lodK 7) (lodF 7) lf2 65536 = lf3 := ⟨by decide, rfl⟩
theorem lfb : opE 4 blkK lf3.xs 65536 = 0 ∧ opS 4 blkK blkF lf3 65536 = lf4 := ⟨by decide, rfl⟩
theorem lfg : getV lf4.xs 65536 = blkF (lodF 7 (runF 2 (newA 65536 1))) ∧ getB lf4.xs 65536 = true := ⟨rfl, rfl⟩
theorem in65536 : In64 65536 := ⟨by decide, by decide⟩
theorem lfA : acA (blkF (lodF 7 (runF 2 (newA 65536 1)))) = #[.int .i64 65536, .int .i64 3, .int .i64 1, .int .i64 (-1), .int .i64 7, .int .i64 0, .int .i64 0, .int .i64 0, .int .i64 0, .int .i64 0, .int .i64 0, .int .i64 0, .int .i64 0, .int .i64 0, .int .i64 0, .int .i64 0] := rfl

theorem Env.step {w w' : World} {T : List Nat} (h : Env w) (hs : Step [] w T w') : Env w' := h.on hs.below
set_option maxHeartbeats 2000000 in
set_option maxRecDepth 100000 in
theorem lives_any (w : World) (hV : Env w) : Calls Tryd.prog 8 #[] w fun e w' => e = .returned (.bool true) ∧ Below w.heap.size w w' := by
  have hN := tnew_some 4 (by decide) (by decide) w
  have HM : ∀ W B T, TQ W B T 4 lf0 → Env W → Calls Tryd.prog 19 #[.pointer (some ⟨B, 0, none⟩), .int .i64 1] W fun e w' => e = .returned (.tuple #[.int .i64 65536, .int .i64 0]) ∧ ∃ T', TQ w' B T' 4 lf1 ∧ Step T W T' w' := fun W B T h hE => by
    have := make_any h hE 1
    rw [lfm.1, lfm.2.1, lfm.2.2] at this
    exact this
  have HR : ∀ W B T, TQ W B T 4 lf1 → Env W → Calls Tryd.prog 20 #[.pointer (some ⟨B, 0, none⟩), .int .i64 65536, .int .i64 2] W fun e w' => e = .returned (.int .i64 0) ∧ TQ w' B T 4 lf2 ∧ But T W w' := fun W B T h hE => by
    have := run_any h hE in65536 2
    rw [lfr.1, lfr.2] at this
    exact this
  have HL : ∀ W B T, TQ W B T 4 lf2 → Env W → Calls Tryd.prog 21 #[.pointer (some ⟨B, 0, none⟩), .int .i64 65536, .int .i64 7] W fun e w' => e = .returned (.int .i64 0) ∧ TQ w' B T 4 lf3 ∧ But T W w' := fun W B T h hE => by
    have := load_any h hE in65536 7
    rw [lfl.1, lfl.2] at this
    exact this
  have HB : ∀ W B T, TQ W B T 4 lf3 → Env W → Calls Tryd.prog 22 #[.pointer (some ⟨B, 0, none⟩), .int .i64 65536] W fun e w' => e = .returned (.int .i64 0) ∧ TQ w' B T 4 lf4 ∧ But T W w' := fun W B T h hE => by
    have := block_any h hE in65536
    rw [lfb.1, lfb.2] at this
    exact this
  have HG : ∀ W B T, TQ W B T 4 lf4 → Calls Tryd.prog 17 #[.pointer (some ⟨B, 0, none⟩), .int .i64 65536] W fun e w' => e = .returned (.tuple #[.agg #[.int .i64 65536, .int .i64 3, .int .i64 1, .int .i64 (-1), .int .i64 7, .int .i64 0, .int .i64 0, .int .i64 0, .int .i64 0, .int .i64 0, .int .i64 0, .int .i64 0, .int .i64 0, .int .i64 0, .int .i64 0, .int .i64 0], .bool true]) ∧ Below W.heap.size W w' := fun W B T h => by
    have := get_any h in65536
    rw [lfg.1, lfg.2, lfA] at this
    exact this
  have HS : Hid (∀ W T W' T', Step [] w T W → Step T W T' W' → Env W' ∧ Step [] w T' W') := fun W T W' T' h1 h2 => ⟨hV.step (h1.trans h2), h1.trans h2⟩
  have HQ : (⟨List.replicate 4 0, List.replicate 4 false, []⟩ : Sta) = lf0 := rfl
  rw [HQ] at hN
  have HV : Hid (Env w) := hV
  clear HQ hV
  generalize lf0 = l0 at *
  generalize lf1 = l1 at *
  generalize lf2 = l2 at *
  generalize lf3 = l3 at *
  generalize lf4 = l4 at *
  go_enter Tryd.func8, Tryd.ntmps8
  go_wp2_with (first
    | (go_at_call 9; refine hN.mono ?_; rintro e w1 ⟨B, T, rfl, h1, s1⟩; have e1 := HV.out.step s1)
    | (go_at_call 19; (with_reducible refine (HM w1 B T h1 e1).mono ?_); rintro e w2 ⟨rfl, T2, h2, s2⟩; obtain ⟨e2, t2⟩ := HS.out _ _ _ _ s1 s2)
    | (go_at_call 20; (with_reducible refine (HR w2 B T2 h2 e2).mono ?_); rintro e w3 ⟨rfl, h3, s3⟩; obtain ⟨e3, t3⟩ := HS.out _ _ _ _ t2 (Step.same s3))
    | (go_at_call 21; (with_reducible refine (HL w3 B T2 h3 e3).mono ?_); rintro e w4 ⟨rfl, h4, s4⟩; obtain ⟨e4, t4⟩ := HS.out _ _ _ _ t3 (Step.same s4))
    | (go_at_call 22; (with_reducible refine (HB w4 B T2 h4 e4).mono ?_); rintro e w5 ⟨rfl, h5, s5⟩; obtain ⟨e5, t5⟩ := HS.out _ _ _ _ t4 (Step.same s5))
    | (go_at_call 17; (with_reducible refine (HG w5 B T2 h5).mono ?_); rintro e w6 ⟨rfl, b6⟩))
  go_ret
  exact ⟨rfl, (t5.below.trans (b6.mono t5.below.size)).alloc (Nat.le_trans t5.below.size b6.size) _⟩
end Go.Proofs.YtjgclehghnmhnaaDoor
