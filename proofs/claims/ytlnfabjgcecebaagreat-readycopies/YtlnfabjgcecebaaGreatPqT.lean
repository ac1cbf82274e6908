/- What is done with a thread that is in one state: Take, Back, Block, Wake, Resume. -/
import Derived.Test.YtlnfabjgcecebaaGreatPqK
namespace Go.Proofs.YtlnfabjgcecebaaGreat.Pq
open Go Go.RowKit Go.Proofs.YtlnfabjgcecebaaGreat.Str Go.Proofs.YtlnfabjgcecebaaGreat.Rd
open Go.Proofs.YtlnfabjgcecebaaGreat.Hp (Step Disj HQ)

/-- Two boxes of a call's own hold these. -/
structure Bx (w : World) (X Y : Nat) (u v : Value) : Prop where
  x : w.cell? ⟨X, 0, none⟩ = some u
  y : w.cell? ⟨Y, 0, none⟩ = some v
theorem hasq {σ : Qs} {k : Nat} (hk : k < σ.L.length) (h : (rw σ.L k).1 ≠ 1) : Hp.hasB (qL σ) (k : Int) = false := by
  rw [hasB_qL, rwI_of hk]
  simpa using h
theorem hasq1 {σ : Qs} {k : Nat} (hk : k < σ.L.length) (h : (rw σ.L k).1 = 1) : Hp.hasB (qL σ) (k : Int) = true := by
  rw [hasB_qL, rwI_of hk]
  simpa using h
/-- What the heap's Remove makes of those that wait. -/
theorem rem_in {N k : Nat} {q : List Hp.Th} (hk : k < N) (hq : Hp.hasB q (k : Int) = true) : Hp.remS N q (k : Int) = Hp.remq q (k : Int) ∧ Hp.askE N q (k : Int) true 4 = 0 := by
  have e : Hp.askE N q (k : Int) true 4 = 0 := by
    unfold Hp.askE
    rw [if_pos (Hp.inN_of hk), if_pos hq]
  unfold Hp.remS
  rw [if_pos e]
  exact ⟨rfl, e⟩
theorem turnE_no {σ : Qs} {id fr : Int} (h : inB σ id = false) : turnE σ id fr = 8 := by unfold turnE; rw [if_pos h]
theorem turnE_other {σ : Qs} {k : Nat} {fr : Int} (hk : k < σ.L.length) (h : (rw σ.L k).1 ≠ fr) : turnE σ (k : Int) fr = 5 := by unfold turnE; rw [if_neg (by rw [inB_of hk]; simp), rwI_of hk, if_pos h]
theorem turnE_yes {σ : Qs} {k : Nat} {fr : Int} (hk : k < σ.L.length) (h : (rw σ.L k).1 = fr) : turnE σ (k : Int) fr = 0 := by unfold turnE; rw [if_neg (by rw [inB_of hk]; simp), rwI_of hk, if_neg (by simpa using h)]
theorem turnS_self {σ : Qs} {id fr tt : Int} {b : Bool} (h : turnE σ id fr ≠ 0) : turnS σ id fr tt b = σ := by unfold turnS; rw [if_neg h]
theorem turnS_yes {σ : Qs} {k : Nat} {fr tt : Int} {b : Bool} (hk : k < σ.L.length) (h : (rw σ.L k).1 = fr) : turnS σ (k : Int) fr tt b = ⟨σ.now, σ.L.set k (tt, (rw σ.L k).2.1, (if b = true then entI (rw σ.L k).2.2.1 σ.now (strI (rw σ.L k).2.1) else (rw σ.L k).2.2.1), (rw σ.L k).2.2.2)⟩ := by
  unfold turnS
  rw [if_pos (turnE_yes hk h), rwI_of hk, Int.toNat_natCast]

section
set_option maxRecDepth 100000
variable {w w' : World} {B G H N : Nat} {TH TH' : List Nat} {σ : Qs} {q q' : List Hp.Th}
/-- What act asks first: there is no such id, or it is in another state. -/
theorem act_no (h : QM w B G H TH N σ q) (id fr : Int) (he : turnE σ id fr ≠ 0) (f : Value) :
    Calls Tryz.prog 51 #[.pointer (some ⟨B, 0, none⟩), .int .i64 id, .int .i64 fr, f] w fun e w' => e = .returned (.int .i64 (turnE σ id fr)) ∧ w' = w := by
  have A := ask_any h id
  cases hi : inB σ id
  · rw [turnE_no hi]
    rw [hi, if_neg (by simp)] at A
    go_enter Tryz.func51, Tryz.ntmps51
    go_wp2_with (first | (go_at_call 42; (with_reducible refine A.mono ?_); rintro e w1 ⟨rfl, hw⟩; subst w1))
    go_ret
    exact ⟨rfl, rfl⟩
  · obtain ⟨k, rfl, hk⟩ := inB_out hi
    rw [hi, if_pos rfl] at A
    have hne : (rw σ.L k).1 ≠ fr := fun e => he (turnE_yes hk e)
    rw [turnE_other hk hne]
    have hkN : k < N := by rw [← h.len]; exact hk
    have hk' : (k : Int) < (N : Int) := by omega
    obtain ⟨c, -, -, c0⟩ := h.c0
    have g0 := h.r0 hkN
    have hne' : ((rw σ.L k).1 == fr) = false := by simpa using hne
    generalize (rw σ.L k).1 = x at *
    clear hi hk h he
    go_enter Tryz.func51, Tryz.ntmps51
    go_wp2_with (first | (go_at_call 42; (with_reducible refine A.mono ?_); rintro e w1 ⟨rfl, hw⟩; subst w1))
    go_ret
    exact ⟨rfl, rfl⟩
/-- The closure of turn. -/
theorem turn1_any (h : QM w B G H TH N σ q) {k : Nat} (hk : k < N) {Y : Nat} (tt : Int) (hy : w.cell? ⟨Y, 0, none⟩ = some (.int .i64 tt)) :
    Calls Tryz.prog 80 #[.pointer (some ⟨G, k * 4, none⟩), .pointer (some ⟨Y, 0, none⟩)] w fun e w' => e = .returned (.tuple #[]) ∧ QM w' B G H TH N ⟨σ.now, σ.L.set k (tt, (rw σ.L k).2)⟩ q ∧ Step (B :: G :: TH) w (B :: G :: TH) w' := by
  have g0 := h.r0 hk
  have f0 := h.fg (k * 4)
  have h1 := h.f0 hk tt
  have b1 := butG w B TH (G := G) (k * 4) (.int .i64 tt)
  go_enter Tryz.func80, Tryz.ntmps80
  go_wp2_with fail
  go_end0
  exact ⟨rfl, h1, Step.same b1⟩
theorem act_turn (h : QM w B G H TH N σ q) {k : Nat} (hk : k < N) {Y : Nat} (tt : Int) (hy : w.cell? ⟨Y, 0, none⟩ = some (.int .i64 tt)) :
    Calls Tryz.prog 51 #[.pointer (some ⟨B, 0, none⟩), .int .i64 k, .int .i64 (rw σ.L k).1, .func (.func 80) #[] #[.pointer (some ⟨Y, 0, none⟩)]] w fun e w' => e = .returned (.int .i64 0) ∧ QM w' B G H TH N ⟨σ.now, σ.L.set k (tt, (rw σ.L k).2)⟩ q ∧ Step (B :: G :: TH) w (B :: G :: TH) w' := by
  have A := ask_any h (k : Int)
  rw [inB_of (by rw [h.len]; exact hk), if_pos rfl] at A
  have T := turn1_any h hk tt hy
  obtain ⟨c, -, -, c0⟩ := h.c0
  have g0 := h.r0 hk
  have hk' : (k : Int) < (N : Int) := by omega
  generalize (rw σ.L k).1 = x at *
  clear h
  go_enter Tryz.func51, Tryz.ntmps51
  go_wp2_with (first
    | (go_at_call 42; (with_reducible refine A.mono ?_); rintro e w1 ⟨rfl, hw⟩; subst w1)
    | (go_at_call 80; (with_reducible refine T.mono ?_); rintro e w2 ⟨rfl, h2, s2⟩))
  go_ret
  exact ⟨rfl, h2, s2⟩
theorem turn_any (h : QM w B G H TH N σ (qL σ)) (id fr tt : Int) (hf : fr ≠ 1) (ht : tt ≠ 1) :
    Calls Tryz.prog 55 #[.pointer (some ⟨B, 0, none⟩), .int .i64 id, .int .i64 fr, .int .i64 tt] w fun e w' => e = .returned (.int .i64 (turnE σ id fr)) ∧ QM w' B G H TH N (turnS σ id fr tt false) (qL (turnS σ id fr tt false)) ∧ Step (B :: G :: TH) w (B :: G :: TH) w' := by
  have ba : Hp.But [] w (w.alloc (.cells #[.int .i64 tt] 3)) := (Hp.But.refl [] w).alloc _
  have h1 := h.keep ba
  have hy : (w.alloc (.cells #[.int .i64 tt] 3)).cell? ⟨w.heap.size, 0, none⟩ = some (.int .i64 tt) := by simp [go_sem]
  by_cases he : turnE σ id fr = 0
  · obtain ⟨k, rfl, hk, hst⟩ := turn_out he
    rw [he, turnS_yes hk hst, if_neg (by simp), qL_same hk (by rw [hst]; exact hf) ht]
    have A := act_turn h1 (by rw [← h.len]; exact hk) tt hy
    rw [hst] at A
    go_enter Tryz.func55, Tryz.ntmps55
    go_wp2_with (first | (go_at_call 51; (with_reducible refine A.mono ?_); rintro e w2 ⟨rfl, h2, s2⟩))
    go_ret
    exact ⟨rfl, h2, (Step.keep ba).trans s2⟩
  · rw [turnS_self he]
    have A := act_no h1 id fr he (.func (.func 80) #[] #[.pointer (some ⟨w.heap.size, 0, none⟩)])
    generalize turnE σ id fr = x at *
    go_enter Tryz.func55, Tryz.ntmps55
    go_wp2_with (first | (go_at_call 51; (with_reducible refine A.mono ?_); rintro e w2 ⟨rfl, hw⟩; subst w2))
    go_ret
    exact ⟨rfl, h1, Step.keep ba⟩
set_option maxHeartbeats 1000000 in
/-- The closure of Take. -/
theorem take1_any (h : QM w B G H TH N σ q) {k : Nat} (hk : k < N) (hq : Hp.hasB q (k : Int) = true) {X Y : Nat} (hX : X ∉ TH) (hY : Y ∉ TH) (hx : w.cell? ⟨X, 0, none⟩ = some (.pointer (some ⟨B, 0, none⟩))) (hy : w.cell? ⟨Y, 0, none⟩ = some (.int .i64 k)) :
    Calls Tryz.prog 52 #[.pointer (some ⟨G, k * 4, none⟩), .pointer (some ⟨X, 0, none⟩), .pointer (some ⟨Y, 0, none⟩)] w fun e w' => e = .returned (.tuple #[]) ∧ ∃ TH', QM w' B G H TH' N ⟨σ.now, σ.L.set k (2, (rw σ.L k).2)⟩ (Hp.remq q (k : Int)) ∧ Step (B :: G :: TH) w (B :: G :: TH') w' := by
  obtain ⟨e1, e2⟩ := rem_in hk hq
  have R : ∀ W', QM W' B G H TH N σ q → Calls Tryz.prog 53 #[.pointer (some ⟨H, 0, none⟩), .int .i64 (k : Int)] W' fun e w' => e = .returned (.int .i64 0) ∧ ∃ T', HQ w' H T' N (Hp.remq q (k : Int)) ∧ Step TH W' T' w' := fun W' h => by
    have := Hp.remove_any h.h (k : Int)
    rw [e1, e2] at this
    exact this
  clear e1 e2 hq
  have c1 := h.c1
  have hd := h.drew
  have hS : w.drew.cell? ⟨X, 0, none⟩ = some (.pointer (some ⟨B, 0, none⟩)) ∧ w.drew.cell? ⟨Y, 0, none⟩ = some (.int .i64 k) ∧ w.drew.cell? ⟨B, 1, none⟩ = some (.pointer (some ⟨H, 0, none⟩)) := ⟨hx, hy, c1⟩
  go_enter Tryz.func52, Tryz.ntmps52
  go_upto_region 0 with fail
  go_region_held3 (fun w' => w'.cell? ⟨X, 0, none⟩ = some (.pointer (some ⟨B, 0, none⟩)) ∧ w'.cell? ⟨Y, 0, none⟩ = some (.int .i64 k) ∧ w'.cell? ⟨B, 1, none⟩ = some (.pointer (some ⟨H, 0, none⟩))) (first | with_reducible assumption | with_reducible exact hS) (first
    | (go_at_call 53; (with_reducible refine (R _ hd).mono ?_); rintro e w2 ⟨rfl, TH2, q2, s2⟩; have h2 := hd.heap q2 s2; have g2 := h2.r0 hk; have f2 := h2.fg (k * 4); have k2 : w2.cell? ⟨X, 0, none⟩ = some (.pointer (some ⟨B, 0, none⟩)) ∧ w2.cell? ⟨Y, 0, none⟩ = some (.int .i64 k) ∧ w2.cell? ⟨B, 1, none⟩ = some (.pointer (some ⟨H, 0, none⟩)) := ⟨s2.but.cell' hS.1 hX, s2.but.cell' hS.2.1 hY, s2.but.cell' hS.2.2 hd.bh⟩))
  all_goals
    have h3 := h2.f0 hk 2
    go_wp2_with fail
    go_end0
    exact ⟨rfl, TH2, h3, ((Step.keep (Hp.But.refl [] w).drew).trans (wide2 B G s2)).trans (Step.same (butG _ B TH2 _ _))⟩
theorem act_take (h : QM w B G H TH N σ q) {k : Nat} (hk : k < N) (hst : (rw σ.L k).1 = 1) (hq : Hp.hasB q (k : Int) = true) {X Y : Nat} (hX : X ∉ TH) (hY : Y ∉ TH) (hx : w.cell? ⟨X, 0, none⟩ = some (.pointer (some ⟨B, 0, none⟩))) (hy : w.cell? ⟨Y, 0, none⟩ = some (.int .i64 k)) :
    Calls Tryz.prog 51 #[.pointer (some ⟨B, 0, none⟩), .int .i64 k, .int .i64 1, .func (.func 52) #[] #[.pointer (some ⟨X, 0, none⟩), .pointer (some ⟨Y, 0, none⟩)]] w fun e w' => e = .returned (.int .i64 0) ∧ ∃ TH', QM w' B G H TH' N ⟨σ.now, σ.L.set k (2, (rw σ.L k).2)⟩ (Hp.remq q (k : Int)) ∧ Step (B :: G :: TH) w (B :: G :: TH') w' := by
  have A := ask_any h (k : Int)
  rw [inB_of (by rw [h.len]; exact hk), if_pos rfl] at A
  have T := take1_any h hk hq hX hY hx hy
  obtain ⟨c, -, -, c0⟩ := h.c0
  have g0 := h.r0 hk
  rw [hst] at g0
  have hk' : (k : Int) < (N : Int) := by omega
  clear h hst hx hy
  go_enter Tryz.func51, Tryz.ntmps51
  go_wp2_with (first
    | (go_at_call 42; (with_reducible refine A.mono ?_); rintro e w1 ⟨rfl, hw⟩; subst w1)
    | (go_at_call 52; (with_reducible refine T.mono ?_); rintro e w2 ⟨rfl, TH2, h2, s2⟩))
  go_ret
  exact ⟨rfl, TH2, h2, s2⟩
theorem take_any (h : QM w B G H TH N σ (qL σ)) (id : Int) :
    Calls Tryz.prog 17 #[.pointer (some ⟨B, 0, none⟩), .int .i64 id] w fun e w' => e = .returned (.int .i64 (turnE σ id 1)) ∧ ∃ TH', QM w' B G H TH' N (turnS σ id 1 2 false) (qL (turnS σ id 1 2 false)) ∧ Step (B :: G :: TH) w (B :: G :: TH') w' := by
  have ba : Hp.But [] w ((w.alloc (.cells #[.pointer (some ⟨B, 0, none⟩)] 23)).alloc (.cells #[.int .i64 id] 3)) := ((Hp.But.refl [] w).alloc _).alloc _
  have h1 := h.keep ba
  have hx : ((w.alloc (.cells #[.pointer (some ⟨B, 0, none⟩)] 23)).alloc (.cells #[.int .i64 id] 3)).cell? ⟨w.heap.size, 0, none⟩ = some (.pointer (some ⟨B, 0, none⟩)) := by simp [go_sem]
  have hy : ((w.alloc (.cells #[.pointer (some ⟨B, 0, none⟩)] 23)).alloc (.cells #[.int .i64 id] 3)).cell? ⟨w.heap.size + 1, 0, none⟩ = some (.int .i64 id) := by simp [go_sem]
  have hX : w.heap.size ∉ TH := fun e => by have := h.h.lt _ e; omega
  have hY : w.heap.size + 1 ∉ TH := fun e => by have := h.h.lt _ e; omega
  by_cases he : turnE σ id 1 = 0
  · obtain ⟨k, rfl, hk, hst⟩ := turn_out he
    rw [he, turnS_yes hk hst, if_neg (by simp), qL_out hk (by show ¬ (2 : Int) = 1; omega)]
    have A := act_take h1 (by rw [← h.len]; exact hk) hst (hasq1 hk hst) hX hY hx hy
    go_enter Tryz.func17, Tryz.ntmps17
    go_wp2_with (first | (go_at_call 51; (with_reducible refine A.mono ?_); rintro e w2 ⟨rfl, TH2, h2, s2⟩))
    go_ret
    exact ⟨rfl, TH2, h2, (Step.keep ba).trans s2⟩
  · rw [turnS_self he]
    have A := act_no h1 id 1 he (.func (.func 52) #[] #[.pointer (some ⟨w.heap.size, 0, none⟩), .pointer (some ⟨w.heap.size + 1, 0, none⟩)])
    generalize turnE σ id 1 = x at *
    go_enter Tryz.func17, Tryz.ntmps17
    go_wp2_with (first | (go_at_call 51; (with_reducible refine A.mono ?_); rintro e w2 ⟨rfl, hw⟩; subst w2))
    go_ret
    exact ⟨rfl, TH, h1, Step.keep ba⟩
/-- The closure of enter. -/
theorem enter1_any (h : QM w B G H TH N σ q) {k : Nat} (hk : k < N) (hq : Hp.hasB q (k : Int) = false) (hn0 : -9223372036854775808 ≤ σ.now) (hn1 : σ.now ≤ 9223372036854775807) {X Y : Nat} (hx : w.cell? ⟨X, 0, none⟩ = some (.pointer (some ⟨B, 0, none⟩))) (hy : w.cell? ⟨Y, 0, none⟩ = some (.int .i64 k)) (p : Option Addr) :
    Calls Tryz.prog 76 #[.pointer p, .pointer (some ⟨X, 0, none⟩), .pointer (some ⟨Y, 0, none⟩)] w fun e w' => e = .returned (.tuple #[]) ∧ ∃ TH', QM w' B G H TH' N (inS σ k (entI (rw σ.L k).2.2.1 σ.now (strI (rw σ.L k).2.1))) (Hp.insq (k, entI (rw σ.L k).2.2.1 σ.now (strI (rw σ.L k).2.1)) q) ∧ Step (B :: G :: TH) w (B :: G :: TH') w' := by
  have W := waitA_any h hk hq hn0 hn1
  go_enter Tryz.func76, Tryz.ntmps76
  go_wp2_with (first | (go_at_call 44; (with_reducible refine W.mono ?_); rintro e w2 ⟨rfl, TH2, h2, s2⟩))
  go_end0
  exact ⟨rfl, TH2, h2, s2⟩
theorem act_enter (h : QM w B G H TH N σ q) {k : Nat} (hk : k < N) (hq : Hp.hasB q (k : Int) = false) (hn0 : -9223372036854775808 ≤ σ.now) (hn1 : σ.now ≤ 9223372036854775807) {X Y : Nat} (hx : w.cell? ⟨X, 0, none⟩ = some (.pointer (some ⟨B, 0, none⟩))) (hy : w.cell? ⟨Y, 0, none⟩ = some (.int .i64 k)) :
    Calls Tryz.prog 51 #[.pointer (some ⟨B, 0, none⟩), .int .i64 k, .int .i64 (rw σ.L k).1, .func (.func 76) #[] #[.pointer (some ⟨X, 0, none⟩), .pointer (some ⟨Y, 0, none⟩)]] w fun e w' => e = .returned (.int .i64 0) ∧ ∃ TH', QM w' B G H TH' N (inS σ k (entI (rw σ.L k).2.2.1 σ.now (strI (rw σ.L k).2.1))) (Hp.insq (k, entI (rw σ.L k).2.2.1 σ.now (strI (rw σ.L k).2.1)) q) ∧ Step (B :: G :: TH) w (B :: G :: TH') w' := by
  have A := ask_any h (k : Int)
  rw [inB_of (by rw [h.len]; exact hk), if_pos rfl] at A
  have T := fun p => enter1_any h hk hq hn0 hn1 hx hy p
  obtain ⟨c, -, -, c0⟩ := h.c0
  have g0 := h.r0 hk
  have hk' : (k : Int) < (N : Int) := by omega
  generalize entI (rw σ.L k).2.2.1 σ.now (strI (rw σ.L k).2.1) = y at *
  generalize inS σ k y = s at *
  generalize (rw σ.L k).1 = x at *
  clear h hx hy hn0 hn1
  go_enter Tryz.func51, Tryz.ntmps51
  go_wp2_with (first
    | (go_at_call 42; (with_reducible refine A.mono ?_); rintro e w1 ⟨rfl, hw⟩; subst w1)
    | (go_at_call 76; (with_reducible refine (T _).mono ?_); rintro e w2 ⟨rfl, TH2, h2, s2⟩))
  go_ret
  exact ⟨rfl, TH2, h2, s2⟩
theorem enter_any (h : QM w B G H TH N σ (qL σ)) (id fr : Int) (hf : fr ≠ 1) (hn0 : -9223372036854775808 ≤ σ.now) (hn1 : σ.now ≤ 9223372036854775807) :
    Calls Tryz.prog 48 #[.pointer (some ⟨B, 0, none⟩), .int .i64 id, .int .i64 fr] w fun e w' => e = .returned (.int .i64 (turnE σ id fr)) ∧ ∃ TH', QM w' B G H TH' N (turnS σ id fr 1 true) (qL (turnS σ id fr 1 true)) ∧ Step (B :: G :: TH) w (B :: G :: TH') w' := by
  have ba : Hp.But [] w ((w.alloc (.cells #[.pointer (some ⟨B, 0, none⟩)] 23)).alloc (.cells #[.int .i64 id] 3)) := ((Hp.But.refl [] w).alloc _).alloc _
  have h1 := h.keep ba
  have hx : ((w.alloc (.cells #[.pointer (some ⟨B, 0, none⟩)] 23)).alloc (.cells #[.int .i64 id] 3)).cell? ⟨w.heap.size, 0, none⟩ = some (.pointer (some ⟨B, 0, none⟩)) := by simp [go_sem]
  have hy : ((w.alloc (.cells #[.pointer (some ⟨B, 0, none⟩)] 23)).alloc (.cells #[.int .i64 id] 3)).cell? ⟨w.heap.size + 1, 0, none⟩ = some (.int .i64 id) := by simp [go_sem]
  by_cases he : turnE σ id fr = 0
  · obtain ⟨k, rfl, hk, hst⟩ := turn_out he
    rw [he, turnS_yes hk hst, if_pos rfl, qL_in hk (by rw [hst]; exact hf) rfl]
    have A := act_enter h1 (by rw [← h.len]; exact hk) (hasq hk (by rw [hst]; exact hf)) hn0 hn1 hx hy
    rw [hst] at A
    unfold inS at A
    generalize entI (rw σ.L k).2.2.1 σ.now (strI (rw σ.L k).2.1) = y at *
    go_enter Tryz.func48, Tryz.ntmps48
    go_wp2_with (first | (go_at_call 51; (with_reducible refine A.mono ?_); rintro e w2 ⟨rfl, TH2, h2, s2⟩))
    go_ret
    exact ⟨rfl, TH2, h2, (Step.keep ba).trans s2⟩
  · rw [turnS_self he]
    have A := act_no h1 id fr he (.func (.func 76) #[] #[.pointer (some ⟨w.heap.size, 0, none⟩), .pointer (some ⟨w.heap.size + 1, 0, none⟩)])
    generalize turnE σ id fr = x at *
    go_enter Tryz.func48, Tryz.ntmps48
    go_wp2_with (first | (go_at_call 51; (with_reducible refine A.mono ?_); rintro e w2 ⟨rfl, hw⟩; subst w2))
    go_ret
    exact ⟨rfl, TH, h1, Step.keep ba⟩
theorem back_any (h : QM w B G H TH N σ (qL σ)) (id : Int) (hn0 : -9223372036854775808 ≤ σ.now) (hn1 : σ.now ≤ 9223372036854775807) :
    Calls Tryz.prog 14 #[.pointer (some ⟨B, 0, none⟩), .int .i64 id] w fun e w' => e = .returned (.int .i64 (turnE σ id 2)) ∧ ∃ TH', QM w' B G H TH' N (turnS σ id 2 1 true) (qL (turnS σ id 2 1 true)) ∧ Step (B :: G :: TH) w (B :: G :: TH') w' := by
  have A := enter_any h id 2 (by omega) hn0 hn1
  go_enter Tryz.func14, Tryz.ntmps14
  go_wp2_with (first | (go_at_call 48; (with_reducible refine A.mono ?_); rintro e w2 ⟨rfl, TH2, h2, s2⟩))
  go_ret
  exact ⟨rfl, TH2, h2, s2⟩
theorem wake_any (h : QM w B G H TH N σ (qL σ)) (id : Int) (hn0 : -9223372036854775808 ≤ σ.now) (hn1 : σ.now ≤ 9223372036854775807) :
    Calls Tryz.prog 22 #[.pointer (some ⟨B, 0, none⟩), .int .i64 id] w fun e w' => e = .returned (.int .i64 (turnE σ id 3)) ∧ ∃ TH', QM w' B G H TH' N (turnS σ id 3 1 true) (qL (turnS σ id 3 1 true)) ∧ Step (B :: G :: TH) w (B :: G :: TH') w' := by
  have A := enter_any h id 3 (by omega) hn0 hn1
  go_enter Tryz.func22, Tryz.ntmps22
  go_wp2_with (first | (go_at_call 48; (with_reducible refine A.mono ?_); rintro e w2 ⟨rfl, TH2, h2, s2⟩))
  go_ret
  exact ⟨rfl, TH2, h2, s2⟩
theorem block_any (h : QM w B G H TH N σ (qL σ)) (id : Int) :
    Calls Tryz.prog 20 #[.pointer (some ⟨B, 0, none⟩), .int .i64 id] w fun e w' => e = .returned (.int .i64 (turnE σ id 2)) ∧ QM w' B G H TH N (turnS σ id 2 3 false) (qL (turnS σ id 2 3 false)) ∧ Step (B :: G :: TH) w (B :: G :: TH) w' := by
  have A := turn_any h id 2 3 (by omega) (by omega)
  go_enter Tryz.func20, Tryz.ntmps20
  go_wp2_with (first | (go_at_call 55; (with_reducible refine A.mono ?_); rintro e w2 ⟨rfl, h2, s2⟩))
  go_ret
  exact ⟨rfl, h2, s2⟩
theorem resume_any (h : QM w B G H TH N σ (qL σ)) (id : Int) :
    Calls Tryz.prog 24 #[.pointer (some ⟨B, 0, none⟩), .int .i64 id] w fun e w' => e = .returned (.int .i64 (turnE σ id 3)) ∧ QM w' B G H TH N (turnS σ id 3 2 false) (qL (turnS σ id 3 2 false)) ∧ Step (B :: G :: TH) w (B :: G :: TH) w' := by
  have A := turn_any h id 3 2 (by omega) (by omega)
  go_enter Tryz.func24, Tryz.ntmps24
  go_wp2_with (first | (go_at_call 55; (with_reducible refine A.mono ?_); rintro e w2 ⟨rfl, h2, s2⟩))
  go_ret
  exact ⟨rfl, h2, s2⟩
end
end Go.Proofs.YtlnfabjgcecebaaGreat.Pq
