/- Contract of Copy. -/
import Derived.Test.YtjgclehghnmhnaaDoorSAll
import Derived.Deep.RegionHeld3
import Derived.Deep.MidRow
namespace Go.Proofs.YtjgclehghnmhnaaDoor
open Go.RowKit

section
variable {w w' : World} {B G n : Nat} {ag : List Nat} {tk : List Bool}

theorem cp_drew {W : World} {cs : List Value} {v : Value} (h : W.rangeAt B 0 cs ∧ W.cell? ⟨B, 64, none⟩ = some v) : W.drew.rangeAt B 0 cs ∧ W.drew.cell? ⟨B, 64, none⟩ = some v := h
theorem cp_below {W W' : World} {cs : List Value} {v : Value} (hb : Below W.heap.size W W') (h : W.rangeAt B 0 cs ∧ W.cell? ⟨B, 64, none⟩ = some v) : W'.rangeAt B 0 cs ∧ W'.cell? ⟨B, 64, none⟩ = some v :=
  ⟨fun j u hu => (But.of_below (S := []) hb).cell (h.1 j u hu), (But.of_below (S := []) hb).cell h.2⟩
theorem cp_alloc {W : World} {cs : List Value} {v : Value} (o : Obj) (h : W.rangeAt B 0 cs ∧ W.cell? ⟨B, 64, none⟩ = some v) : (W.alloc o).rangeAt B 0 cs ∧ (W.alloc o).cell? ⟨B, 64, none⟩ = some v :=
  cp_below ((Below.refl _ W).alloc (Nat.le_refl _) _) h

/-- An array laid into another one. -/
theorem fold_set : ∀ (cs : List Value) (k : Nat) (zz : Array Value), k + cs.length ≤ zz.size → (List.foldl (fun (cs : Array Value) (x : Value × Nat) => cs.setIfInBounds x.snd x.fst) zz (cs.zipIdx k)).toList = zz.toList.take k ++ cs ++ zz.toList.drop (k + cs.length)
  | [], k, zz, _ => by simp
  | c :: cs, k, zz, h => by
    rw [List.length_cons] at h
    rw [List.zipIdx_cons, List.foldl_cons, fold_set cs (k + 1) _ (by simp; omega)]
    have hk : k < zz.toList.length := by simp; omega
    dsimp only
    rw [Array.toList_setIfInBounds, List.take_set, List.drop_set_of_lt (by omega), List.take_add_one, List.getElem?_eq_getElem hk]
    rw [List.set_append_right _ _ (by simp; omega)]
    have : k - (zz.toList.take k).length = 0 := by rw [List.length_take]; omega
    rw [this]
    simp [Nat.add_assoc, Nat.add_comm 1]
theorem fold53 (cs : List Value) (h : cs.length = 64) : List.foldl (fun (cs : Array Value) (x : Value × Nat) => cs.setIfInBounds x.snd x.fst) z53 cs.zipIdx = (cs ++ [Value.slice none 0 0]).toArray := by
  apply Array.ext'
  have := fold_set cs 0 z53 (by rw [h, size53]; omega)
  rw [this, h]
  rfl
theorem set64 (cs : List Value) (h : cs.length = 64) (v : Value) : (cs ++ [Value.slice none 0 0]).toArray.setIfInBounds 64 v = (cs ++ [v]).toArray := by
  rw [List.setIfInBounds_toArray, List.set_append_right _ _ (by omega), h]
  rfl

/-- What Clone makes of the ages. -/
theorem clone_any {W : World} {c : Nat} (h : Row W G 3 (ag.map (fun x : Nat => Value.int .i64 x))) (hl : ag.length = n) (h1 : 1 ≤ n) (hn : n ≤ 4096) :
    Calls Tryd.prog 69 #[.slice (some ⟨G, 0, none⟩) n c] W fun e w' => ∃ H d, e = .returned (.slice (some ⟨H, 0, none⟩) n d) ∧ Row w' H 3 (ag.map (fun x : Nat => Value.int .i64 x)) ∧ n ≤ d ∧ W.heap.size ≤ H ∧ Below W.heap.size W w' := by
  have hz : (ag.map Int.ofNat).length = n := by rw [List.length_map, hl]
  refine (Tryd.slices_Clone_int G 0 n c (ag.map Int.ofNat) W (by omega) (by omega) (fun j hj => ?_)).mono ?_
  · rw [List.length_map] at hj
    rw [Nat.zero_add]
    refine h.cell ?_
    rw [List.getElem?_map, List.getD_eq_getElem?_getD, List.getElem?_map, List.getElem?_eq_getElem hj]
    rfl
  · rintro e w' ⟨v, rfl, ho, _, hb⟩
    rw [List.take_of_length_le (by omega)] at ho
    rcases ho.2 with ⟨_, h0⟩ | ⟨g, cap, cur, rfl, hg, hc, h3, _, _, h6⟩
    · omega
    · refine ⟨g, cap, rfl, ⟨cur, hc, fun j v hv => ?_⟩, h3, hg, hb⟩
      have hj := (List.getElem?_eq_some_iff.1 hv).1
      rw [List.length_map, hl] at hj
      have : (cur.toList.take (n * 1))[j]? = ((ag.map Int.ofNat).map (Value.int .i64))[j]? := by rw [h6]
      rw [List.getElem?_take_of_lt (by omega), Array.getElem?_toList] at this
      rw [this]
      rw [List.map_map]
      exact hv

set_option maxRecDepth 100000 in
set_option maxHeartbeats 4000000 in
theorem copy_any (hsq : SlQ w B G n ag tk) :
    Calls Tryd.prog 55 #[.pointer (some ⟨B, 0, none⟩)] w fun e w' => ∃ C H, e = .returned (.pointer (some ⟨C, 0, none⟩)) ∧ SlQ w' C H n ag tk ∧ w.heap.size ≤ C ∧ w.heap.size ≤ H ∧ Below w.heap.size w w' := by
  obtain ⟨c, fs, hm, hl, hb⟩ := hsq
  have hM := made_any hm
  obtain ⟨cs, hcs⟩ : ∃ cs, cs = fs.map (fun x : Nat => Value.int .u64 x) := ⟨_, rfl⟩
  have hr := hm.range
  rw [← hcs] at hr
  have c64 := hm.c64
  have hi : (Tryd.prog.info? 93).map (·.size) = some cs.length := by rw [hcs, List.length_map, hm.flen]; exact info51
  have hu := Tryd.underlying93
  have hcl : cs.length = 64 := by rw [hcs, List.length_map, hm.flen]
  have hz := zero53
  have hzs := size53
  have hF := fold53 cs hcl
  have hY : ((cs ++ [Value.slice none 0 0]).toArray).size = 65 := by simp [hcl]
  have hG := fun v => set64 cs hcl v
  generalize (cs ++ [Value.slice none 0 0]).toArray = Y at hF hY hG
  generalize z53 = zz at hz hzs hF
  have HG : Aside (∀ v, Y.setIfInBounds 64 v = (cs ++ [v]).toArray) := hG
  clear hG
  have Hcs : Hid (cs = fs.map (fun x : Nat => Value.int .u64 x)) := hcs
  clear hcs
  go_enter Tryd.func55, Tryd.ntmps55
  go_wp2_with (go_at_call 62; refine hM.mono ?_; rintro e w' ⟨rfl, hw⟩; subst w')
  have hS : w.rangeAt B 0 cs ∧ w.cell? ⟨B, 64, none⟩ = some (.slice (some ⟨G, 0, none⟩) n c) := ⟨hr, c64⟩
  have HC : ∀ W, But [] w W → Calls Tryd.prog 69 #[.slice (some ⟨G, 0, none⟩) n c] W fun e w' => ∃ H d, e = .returned (.slice (some ⟨H, 0, none⟩) n d) ∧ Row w' H 3 (ag.map (fun x : Nat => Value.int .i64 x)) ∧ n ≤ d ∧ W.heap.size ≤ H ∧ Below W.heap.size W w' := fun W hB => clone_any (hm.but hB (by simp) (by simp)).g hm.alen hm.pos hm.le
  have HC := HC w.drew (But.refl [] w).drew
  go_region_held3 (fun w' => w'.rangeAt B 0 cs ∧ w'.cell? ⟨B, 64, none⟩ = some (.slice (some ⟨G, 0, none⟩) n c)) (first | with_reducible assumption | (with_reducible refine cp_drew ?_; with_reducible assumption) | (with_reducible refine cp_alloc _ ?_; with_reducible assumption)) (first | (go_at_call 69; refine HC.mono ?_; rintro e w1 ⟨H, d, rfl, hH, hd, hH2, hB1⟩; have key := cp_below hB1 (cp_drew hS)))
  clear hF hz hzs HC
  have hsz : w.heap.size ≤ w1.heap.size := hB1.size
  have hH3 : w.heap.size ≤ H := hH2
  have hlt := hH.lt
  have hB : Below w.heap.size w w1 := (Below.refl _ w).drew.trans hB1
  go_wp2_with fail
  go_ret
  refine ⟨w1.heap.size, H, rfl, ⟨d, fs, ⟨?_, hH.put (Below.heap_alloc _ _ _ hlt), by omega, hm.flen, hm.alen, hm.pos, hm.le, hd, hm.fb, hm.ab⟩, hl, hb⟩, hsz, hH3, hB.alloc hsz _⟩
  rw [heap_alloc_new, HG.out, Hcs.out]
end
end Go.Proofs.YtjgclehghnmhnaaDoor
