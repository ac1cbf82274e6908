/- Where one stands, plain; rows that are stored. -/
import Derived.Test.YtimoleijdfoahaaLoR
import Derived.Deep.RegionLaw
import Derived.Test.YtimoleijdfoahaaTailB
namespace Go.Proofs.Ytimoleijdfoahaa.Lo
open Go Go.RowKit Go.Proofs.Ytimoleijdfoahaa.Bs
open Go.Proofs.Ytimoleijdfoahaa.Lk (inN inN_of inN_out wI lsI wI_nat whI whI_none whI_some whI_cases ints ints_iv ints_len iv)

theorem ints_mem {q : List Nat} {t : Int} : t ∈ ints q ↔ ∃ u : Nat, t = u ∧ u ∈ q := by
  unfold ints
  rw [List.mem_map]
  exact ⟨fun ⟨u, h1, h2⟩ => ⟨u, h2.symm, h1⟩, fun ⟨u, h1, h2⟩ => ⟨u, h2, h1.symm⟩⟩
theorem ints_app (q : List Nat) (b : Nat) : ints (q ++ [b]) = ints q ++ [(b : Int)] := by simp [ints]
section
variable {σ : St} {n T : Nat}
theorem Ok.wlen (h : Ok n T σ) {o : Nat} (ho : o < n) : (W σ o).length ≤ 1024 := by
  have := Lk.Ok.short h.ls (h.w ho)
  have := h.t2
  omega
theorem Ok.slen (h : Ok n T σ) {c : Nat} (hc : c < n) : (S σ c).length ≤ 1024 := by
  have := Lk.Ok.short h.ls (h.s hc)
  have := h.t2
  omega
theorem Ok.wt_at (h : Ok n T σ) {i u : Nat} {q : List Nat} (hq : σ.ls[i]? = some q) (hu : u ∈ q) : wt σ (u : Int) = i := by
  unfold wt
  rw [wI_nat]
  exact whI_some h.ls hq hu
theorem Ok.where_W (h : Ok n T σ) {o : Nat} (ho : o < n) {t : Int} (ht : t ∈ ints (W σ o)) : whereK σ t = 1 ∧ whereO σ t = o := by
  obtain ⟨u, rfl, hu⟩ := ints_mem.1 ht
  have e := h.wt_at (h.w ho) hu
  have h0 : ¬ ((o : Nat) : Int) = -1 := by omega
  have h1 : ((o : Nat) : Int) < (n : Int) := by omega
  unfold whereK whereO
  rw [e, h.ol, if_neg h0, if_neg h0, if_pos h1, if_pos h1]
  exact ⟨rfl, rfl⟩
theorem Ok.where_S (h : Ok n T σ) {c : Nat} (hc : c < n) {t : Int} (ht : t ∈ ints (S σ c)) : whereK σ t = 2 ∧ whereO σ t = c := by
  obtain ⟨u, rfl, hu⟩ := ints_mem.1 ht
  have e := h.wt_at (h.s hc) hu
  have h0 : ¬ ((n + c : Nat) : Int) = -1 := by omega
  have h1 : ¬ ((n + c : Nat) : Int) < (n : Int) := by omega
  unfold whereK whereO
  rw [e, h.ol, if_neg h0, if_neg h0, if_neg h1, if_neg h1]
  exact ⟨rfl, by omega⟩
theorem Ok.wt_none (h : Ok n T σ) {t : Int} (hn : ∀ i, i < n → t ∉ ints (W σ i) ∧ t ∉ ints (S σ i)) : wt σ t = -1 := by
  unfold wt wI
  split
  · next h0 =>
    refine whI_none fun i q hq hm => ?_
    have ht : t ∈ ints q := ints_mem.2 ⟨t.toNat, by omega, hm⟩
    rcases h.any hq with ⟨hi, rfl⟩ | ⟨c, -, hc, rfl⟩
    · exact (hn i hi).1 ht
    · exact (hn c hc).2 ht
  · rfl
theorem Ok.where_no (h : Ok n T σ) {t : Int} (hn : ∀ i, i < n → t ∉ ints (W σ i) ∧ t ∉ ints (S σ i)) : whereK σ t = 0 ∧ whereO σ t = -1 := by
  have e := h.wt_none hn
  unfold whereK whereO
  rw [e, if_pos rfl, if_pos rfl]
  exact ⟨rfl, rfl⟩
end
section
variable {w w1 : World} {M ob wb sb ab n T : Nat} {R : List Nat} {vw vs : List Value} {σ : St} {q : List Nat} {v : Value}
theorem RM.grow (h : RM w M ob wb sb ab R n T vw vs σ) (hb : But [] w w1) (hv : RowI w1 w.heap.size v (ints q)) : RM w1 M ob wb sb ab (v.ownBlock.toList ++ R) n T vw vs σ ∧ RowF w1 [M, ob, wb, sb, ab] (v.ownBlock.toList ++ R) v q ∧ Step R w (v.ownBlock.toList ++ R) w1 := by
  have hz := hb.size
  have hlow := hv.low
  refine ⟨(h.keep hb).more (fun x hx => by simp [hx]) (fun x hx => ?_), RowF.own hv (fun x hx => h.lt x (h.fr x hx)), hb.wide, fun x hx => ?_⟩
  · rcases List.mem_append.1 hx with hx | hx
    · exact (hlow x (by simpa using hx)).2
    · have := h.lt x hx
      omega
  · rcases List.mem_append.1 hx with hx | hx
    · exact .inr (hlow x (by simpa using hx)).1
    · exact .inl hx
theorem RM.storeW (h : RM w M ob wb sb ab R n T vw vs σ) (hb : But [] w w1) (hv : RowI w1 w.heap.size v (ints q)) {o : Nat} (ho : o < n) :
    RM (w1.setCell ⟨wb, o, none⟩ v) M ob wb sb ab (v.ownBlock.toList ++ R) n T (vw.set o v) vs ⟨σ.own, σ.ls.set o q, σ.ag⟩ ∧ Step R w (v.ownBlock.toList ++ R) (w1.setCell ⟨wb, o, none⟩ v) := by
  obtain ⟨h1, h2, h3⟩ := h.grow hb hv
  exact ⟨h1.setW ho h2, h3.trans (Step.same ((But.refl _ w1).set (p := ⟨wb, o, none⟩) (by have := h.fr wb (by simp); simp [this]) _))⟩
theorem RM.storeS (h : RM w M ob wb sb ab R n T vw vs σ) (hb : But [] w w1) (hv : RowI w1 w.heap.size v (ints q)) {c : Nat} (hc : c < n) :
    RM (w1.setCell ⟨sb, c, none⟩ v) M ob wb sb ab (v.ownBlock.toList ++ R) n T vw (vs.set c v) ⟨σ.own, σ.ls.set (σ.own.length + c) q, σ.ag⟩ ∧ Step R w (v.ownBlock.toList ++ R) (w1.setCell ⟨sb, c, none⟩ v) := by
  obtain ⟨h1, h2, h3⟩ := h.grow hb hv
  exact ⟨h1.setS hc h2, h3.trans (Step.same ((But.refl _ w1).set (p := ⟨sb, c, none⟩) (by have := h.fr sb (by simp); simp [this]) _))⟩
theorem RM.stepO (h : RM w M ob wb sb ab R n T vw vs σ) (o : Nat) (x : Value) : Step R w R (w.setCell ⟨ob, o, none⟩ x) := Step.same ((But.refl _ w).set (p := ⟨ob, o, none⟩) (h.fr ob (by simp)) _)
theorem RM.stepA (h : RM w M ob wb sb ab R n T vw vs σ) (o : Nat) (x : Value) : Step R w R (w.setCell ⟨ab, o, none⟩ x) := Step.same ((But.refl _ w).set (p := ⟨ab, o, none⟩) (h.fr ab (by simp)) _)
end
end Go.Proofs.Ytimoleijdfoahaa.Lo
