/- Contracts of put and take; of Where and Len. -/
import Derived.Test.YtmbpmcgppnanpaaLkFns
import Derived.Deep.RegionWith
namespace Go.Proofs.Ytmbpmcgppnanpaa.Lk
open Go.RowKit Go.Proofs.Ytmbpmcgppnanpaa.Bs

/-- A list has no more things than there are. -/
theorem nodup_short {N : Nat} : ∀ {q : List Nat}, q.Nodup → (∀ t ∈ q, t < N) → q.length ≤ N := fun {q} h1 h2 => by
  have := List.Nodup.length_le_of_subset h1 (l₂ := List.range N) (fun x hx => List.mem_range.2 (h2 x hx))
  simpa using this
theorem Ok.short {N L : Nat} {ls : List (List Nat)} (h : Ok N L ls) {i : Nat} {q : List Nat} (hq : ls[i]? = some q) : q.length ≤ N := nodup_short (h.nd i q hq) (h.lt i q hq)

section
variable {w : World} {P : Pl} {N L : Nat} {ls : List (List Nat)}

set_option maxHeartbeats 1000000 in
theorem put_any {i t : Nat} {pre post : List Nat} (h : LQ w P N L ls) (hq : ls[i]? = some (pre ++ post)) (ht : t < N) (hn : ∀ (j : Nat) (q : List Nat), ls[j]? = some q → t ∉ q) :
    Calls Try.prog 54 #[.pointer (some ⟨P.B, 0, none⟩), .int .i64 i, .int .i64 t, .int .i64 (lastN (N + i) pre)] w fun e w' => e = .returned (.tuple #[]) ∧ LQ w' P N L (ls.set i (pre ++ t :: post)) ∧ But P.S w w' := by
  obtain ⟨nx, pv, hm, hR⟩ := h
  obtain ⟨hi, -⟩ := List.getElem?_eq_some_iff.1 hq
  rw [hR.ok.len] at hi
  obtain ⟨s1, s2⟩ := (hR.lk i _ hq).split
  have hp := (List.getElem?_eq_some_iff.1 s1).1
  have hb := (List.getElem?_eq_some_iff.1 s2).1
  rw [hm.nl] at hp
  rw [hm.pl] at hb
  have F := hR.put hq ht hn
  have E := hR.put_wh hq ht hn
  have ec : (ctL ls)[i]? = some (pre ++ post).length := ctL_get hq
  have E2 : (ctL ls).set i ((pre ++ post).length + 1) = ctL (ls.set i (pre ++ t :: post)) := by
    rw [← ctL_set]
    simp [Nat.add_assoc]
  have hlen : (pre ++ post).length ≤ 4096 := Nat.le_trans (hR.ok.short hq) hm.n2
  generalize lastN (N + i) pre = p at *
  generalize headN post (N + i) = b at *
  generalize (pre ++ post).length = c at *
  generalize ls.set i (pre ++ t :: post) = ls' at *
  obtain ⟨y, hy⟩ : ∃ y, (whL N ls)[t]? = some y := ⟨_, whL_get ht⟩
  have HF : Hid (Rep N L ((nx.set p t).set t b) ((pv.set t p).set b t) ls') := F
  have HE : Hid ((whL N ls).set t (i : Nat) = whL N ls') := E
  have HE2 : Hid ((ctL ls).set i (c + 1) = ctL ls') := E2
  have c0 := hm.c0
  have cx := hm.xn s1
  have hp' : (p : Int) < (N : Int) + (L : Int) := by omega
  have ht' : (t : Int) < (N : Int) := by omega
  have hi' : (i : Int) < (L : Int) := by omega
  have b1 := hm.n2
  have b2 := hm.l2
  clear F E E2 s1 s2 hn hq
  go_enter Try.func54, Try.ntmps54
  go_wp2_with (first
    | (go_at_call 48; (with_reducible refine (chain_any hm p t hp (by omega)).mono ?_); rintro e w1 ⟨rfl, hm1, b1⟩)
    | (go_at_call 48; (with_reducible refine (chain_any hm1 t b (by omega) hb).mono ?_); rintro e w2 ⟨rfl, hm2, b2⟩; have d2 := hm2.c2; have d3 := hm2.c3; have d4 := hm2.xw hy; have d5 := hm2.rw.fz t; have d6 := (hm2.setW t (i : Nat)).c3; have d7 := (hm2.setW t (i : Nat)).xc ec; have d8 := (hm2.setW t (i : Nat)).rc.fz i))
  go_end0
  have H := (hm2.setW t (i : Nat)).setC i (c + 1)
  rw [HE.out, HE2.out] at H
  exact ⟨rfl, ⟨_, _, H, HF.out⟩, ((b1.trans b2).set (p := ⟨P.w, t, none⟩) (by simp [Pl.S]) _).set (p := ⟨P.c, i, none⟩) (by simp [Pl.S]) _⟩

set_option maxHeartbeats 1000000 in
theorem take_any {i t : Nat} {pre post : List Nat} (h : LQ w P N L ls) (hq : ls[i]? = some (pre ++ t :: post)) :
    Calls Try.prog 57 #[.pointer (some ⟨P.B, 0, none⟩), .int .i64 t] w fun e w' => e = .returned (.tuple #[]) ∧ LQ w' P N L (ls.set i (pre ++ post)) ∧ But P.S w w' := by
  obtain ⟨nx, pv, hm, hR⟩ := h
  obtain ⟨hi, -⟩ := List.getElem?_eq_some_iff.1 hq
  rw [hR.ok.len] at hi
  have ht : t < N := hR.ok.lt i _ hq t (by simp)
  have s1 := (hR.lk i _ hq).split.2
  have s2 : nx[t]? = some (headN post (N + i)) := by
    have hq' : ls[i]? = some ((pre ++ [t]) ++ post) := by simpa using hq
    have := (hR.lk i _ hq').split.1
    rwa [lastN_append] at this
  change pv[t]? = _ at s1
  have F := hR.take hq
  have E := hR.take_wh hq
  have ew : (whL N ls)[t]? = some (i : Int) := by rw [whL_get ht, whI_some hR.ok hq (by simp)]
  have ec : (ctL ls)[i]? = some ((pre ++ post).length + 1) := by
    rw [ctL_get hq]
    simp [Nat.add_assoc]
  have E2 : (ctL ls).set i (pre ++ post).length = ctL (ls.set i (pre ++ post)) := ctL_set _ _ _
  have hp : lastN (N + i) pre < N + L := by
    have := (List.getElem?_eq_some_iff.1 (hR.lk i _ hq).split.1).1
    rwa [hm.nl] at this
  have hb : headN post (N + i) < N + L := by
    have hq' : ls[i]? = some ((pre ++ [t]) ++ post) := by simpa using hq
    have := (List.getElem?_eq_some_iff.1 (hR.lk i _ hq').split.2).1
    rwa [hm.pl] at this
  have hlen : (pre ++ post).length ≤ 4096 := by
    have h1 := hR.ok.short hq
    have h2 := hm.n2
    simp at h1 ⊢
    omega
  generalize lastN (N + i) pre = p at *
  generalize headN post (N + i) = b at *
  generalize (pre ++ post).length = c at *
  generalize ls.set i (pre ++ post) = ls' at *
  have HF : Hid (Rep N L (nx.set p b) (pv.set b p) ls') := F
  have HE : Hid ((whL N ls).set t (-1) = whL N ls') := E
  have HE2 : Hid ((ctL ls).set i c = ctL ls') := E2
  have c0 := hm.c0
  have c1 := hm.c1
  have cx := hm.xp s1
  have cy := hm.xn s2
  have ht' : (t : Int) < (N : Int) := by omega
  have ht2 : (t : Int) < (N : Int) + (L : Int) := by omega
  have hi' : (i : Int) < (L : Int) := by omega
  have ht0 : (0 : Int) ≤ (t : Int) := by omega
  have hi0 : (0 : Int) ≤ (i : Int) := by omega
  have b1 := hm.n2
  have b2 := hm.l2
  clear F E E2 s1 s2 hq
  go_enter Try.func57, Try.ntmps57
  go_wp2_with fail
  have hS : w.cell? ⟨P.B, 0, none⟩ = some (.slice (some ⟨P.n, 0, none⟩) (N + L) P.k1) := c0
  go_region_with (first
    | (go_at_call 48; refine (chain_any (hm.keep (But.refl [] w).drew) p b hp hb).mono ?_; rintro e w1 ⟨rfl, hm1, b1⟩; have d2 := hm1.c2; have d3 := hm1.c3; have d4 := hm1.xw ew; have d5 := hm1.rc.fz i; have d7 := hm1.xc ec))
  all_goals
    go_wp2_with fail
    have hm2 := hm1.setC i c
    have e2 := hm2.c2
    have e3 := hm2.xw ew
    have e4 := hm2.rw.fz t
    go_region
    all_goals
      go_wp2_with fail
      go_end0
      have H := (hm2.keep (But.refl [] _).drew).setW t (-1)
      rw [HE.out, HE2.out] at H
      exact ⟨rfl, ⟨_, _, H, HF.out⟩, ((((But.refl P.S w).drew.trans b1).set (p := ⟨P.c, i, none⟩) (by simp [Pl.S]) _).drew.set (p := ⟨P.w, t, none⟩) (by simp [Pl.S]) _)⟩
end

end Go.Proofs.Ytmbpmcgppnanpaa.Lk
