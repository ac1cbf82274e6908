/- The walk of SlotsActs. -/
import Derived.Test.YtkoekdbkjjjoaaaDoorRefA
import Derived.Test.YtkoekdbkjjjoaaaDoorOpens
import Derived.Deep.CutRange
namespace Go.Proofs.YtkoekdbkjjjoaaaDoor
open Go.RowKit

/-- What SlotsActs keeps in memory: the program's Slots, the reference's, the row of ids that were told. -/
structure AcS (w W : World) (B G M A T lo n : Nat) (ag : List Nat) (tk : List Bool) (ag' : List Nat) (tk' : List Bool) (tv : Value) (told : List Int) : Prop where
  q : SQ W B G n ag tk
  r : RS W M A T n ag' tk'
  t : RowI W lo tv told
  tb : ∀ x ∈ told, 0 ≤ x ∧ x < 140737488355328
  ap : B < M ∧ B < A ∧ B < T ∧ G < M ∧ G < A ∧ G < T
  lo1 : M < lo ∧ A < lo ∧ T < lo
  sz : lo ≤ W.heap.size
  b0 : w.heap.size ≤ B ∧ w.heap.size ≤ G
  k : Below w.heap.size w W

section
variable {w W W' : World} {B G M A T lo n : Nat} {ag ag1 ag' : List Nat} {tk tk1 tk' : List Bool} {tv : Value} {told : List Int}
theorem AcS.stepP (h : AcS w W B G M A T lo n ag tk ag' tk' tv told) (hq : SQ W' B G n ag1 tk1) (hb : But [B, G] W W') : AcS w W' B G M A T lo n ag1 tk1 ag' tk' tv told := by
  obtain ⟨a1, a2, a3, a4, a5, a6⟩ := h.ap
  obtain ⟨l1, l2, l3⟩ := h.lo1
  obtain ⟨b1, b2⟩ := h.b0
  exact ⟨hq, h.r.but hb (by simp; omega) (by simp; omega) (by simp; omega), h.t.but hb (by simp; omega), h.tb, h.ap, h.lo1, Nat.le_trans h.sz hb.size, h.b0, h.k.trans (hb.below h.k.size (by simp; omega))⟩
theorem AcS.stepR (h : AcS w W B G M A T lo n ag tk ag' tk' tv told) (hr : RS W' M A T n ag1 tk1) (hb : But [A, T] W W') : AcS w W' B G M A T lo n ag tk ag1 tk1 tv told := by
  obtain ⟨a1, a2, a3, a4, a5, a6⟩ := h.ap
  obtain ⟨l1, l2, l3⟩ := h.lo1
  obtain ⟨b1, b2⟩ := h.b0
  exact ⟨h.q.but hb (by simp; omega) (by simp; omega), hr, h.t.but hb (by simp; omega), h.tb, h.ap, h.lo1, Nat.le_trans h.sz hb.size, h.b0, h.k.trans (hb.below h.k.size (by simp; omega))⟩
theorem AcS.below (h : AcS w W B G M A T lo n ag tk ag' tk' tv told) (hb : Below W.heap.size W W') : AcS w W' B G M A T lo n ag tk ag' tk' tv told :=
  ⟨h.q.below hb, h.r.keep (.of_below hb), h.t.below hb, h.tb, h.ap, h.lo1, Nat.le_trans h.sz hb.size, h.b0, h.k.trans (hb.mono h.k.size)⟩
theorem AcS.drawn (h : AcS w W B G M A T lo n ag tk ag' tk' tv told) (hd : Drawn W W') : AcS w W' B G M A T lo n ag tk ag' tk' tv told := h.below ((hd.but (S := [])).below (Nat.le_refl _) (by simp))
theorem AcS.tab (h : AcS w W B G M A T lo n ag tk ag' tk' tv told) (hT : Tab w) : Tab W := hT.below h.k (Nat.le_refl _)
theorem AcS.app {x : Int} {v' : Value} (h : AcS w W B G M A T lo n ag tk ag' tk' tv told) (hx : 0 ≤ x ∧ x < 140737488355328) (hr : RowI W' lo v' (told ++ [x])) (hg : W.grownBy W' tv.ownBlock) : AcS w W' B G M A T lo n ag tk ag' tk' v' (told ++ [x]) := by
  obtain ⟨a1, a2, a3, a4, a5, a6⟩ := h.ap
  obtain ⟨l1, l2, l3⟩ := h.lo1
  obtain ⟨b1, b2⟩ := h.b0
  have hb : ∀ k, tv.ownBlock = some k → lo ≤ k := fun k e => (h.t.lt k e).1
  obtain ⟨s1, s2, _⟩ := h.q.lts
  have eB := hg.block B s1 (fun e => by have := hb B e.symm; omega)
  have eG := hg.block G s2 (fun e => by have := hb G e.symm; omega)
  have eM := hg.block M h.r.ltM (fun e => by have := hb M e.symm; omega)
  have eA := hg.block A h.r.a.lt (fun e => by have := hb A e.symm; omega)
  have eT := hg.block T h.r.t.lt (fun e => by have := hb T e.symm; omega)
  obtain ⟨c, fs, hm, hk⟩ := h.q
  refine ⟨⟨c, fs, hm.put eB eG, hk⟩, h.r.put eM eA eT, hr, fun y hy => ?_, h.ap, h.lo1, Nat.le_trans h.sz hg.size, h.b0, h.k.grown hg h.k.size (fun k e => by have := hb k e; omega)⟩
  rcases List.mem_append.1 hy with hy | hy
  · exact h.tb y hy
  · rw [List.mem_singleton.1 hy]; exact hx
end

theorem takeI_bd (ag : List Nat) (tk : List Bool) : 0 ≤ takeI ag tk ∧ takeI ag tk < 140737488355328 := by
  unfold takeI
  cases leastO ag tk with
  | none => simp
  | some i => exact idI_bd _ _
theorem rall_count {w : World} {M A T n : Nat} {ag : List Nat} {tk : List Bool} (hrs : RS w M A T n ag tk) :
    Calls Tryd.prog 18 #[.pointer (some ⟨M, 0, none⟩)] w fun e w' => ∃ a c, e = .returned (.slice a (tk.count true) c) ∧ Below w.heap.size w w' :=
  (rall_any hrs).mono fun e w' ⟨v, h1, h2, h3⟩ => by
    obtain ⟨a, c, rfl⟩ := own_shape h2
    rw [allL_count] at h1
    exact ⟨a, c, h1, h3⟩

set_option maxRecDepth 100000 in
set_option maxHeartbeats 8000000 in
theorem acts_any (m : Int) (a : Option Addr) (c : Nat) (acts : List (Int × Int)) (id : Int) (w : World) (hm0 : -9223372036854775808 ≤ m) (hm1 : m ≤ 9223372036854775807) (ha : Acts w a acts)
    (hab : ∀ x ∈ acts, -9223372036854775808 ≤ x.1 ∧ x.1 ≤ 9223372036854775807 ∧ -9223372036854775808 ≤ x.2 ∧ x.2 ≤ 9223372036854775807) (hi0 : -9223372036854775808 ≤ id) (hi1 : id ≤ 9223372036854775807) (hT : Tab w) :
    Calls Tryd.prog 3 #[.int .i64 m, .slice a acts.length c, .int .i64 id] w fun e w' => e = .returned (.bool true) ∧ Below w.heap.size w w' := by
  by_cases hlen : 300 < acts.length
  · have hlen' : (300 : Int) < (acts.length : Int) := by omega
    go_enter Tryd.func3, Tryd.ntmps3
    go_wp2_with (first
      | (go_at_call 8; refine (lives_any _ hT).mono ?_; rintro e w' ⟨rfl, hb⟩))
    go_ret
    exact ⟨rfl, hb⟩
  · have hlen' : (acts.length : Int) ≤ 300 := by omega
    by_cases hmn : m < 1 ∨ 4096 < m
    · have N1 := new_none m hmn w
      have N2 := rnew_none m hmn w
      clear hmn
      go_enter Tryd.func3, Tryd.ntmps3
      go_wp2_with (first
        | (go_at_call 9; refine N1.mono ?_; rintro e w' ⟨rfl, hw⟩; subst w')
        | (go_at_call 10; refine N2.mono ?_; rintro e w' ⟨rfl, hw⟩; subst w')
        | (go_at_call 8; refine (lives_any _ hT).mono ?_; rintro e w' ⟨rfl, hb⟩))
      go_ret
      exact ⟨rfl, hb⟩
    · obtain ⟨n, rfl⟩ : ∃ n : Nat, m = n := ⟨m.toNat, by omega⟩
      have n1 : 1 ≤ n := by omega
      have n2 : n ≤ 4096 := by omega
      clear hmn hm0 hm1
      go_enter Tryd.func3, Tryd.ntmps3
      go_wp2_with (first
        | (go_at_call 9; refine (new_some n n1 n2 w).mono ?_; rintro e w1 ⟨rfl, hr, hs, hB⟩; have hs' : Hid (w.heap.size + 2 ≤ w1.heap.size) := hs; clear hs)
        | (go_at_call 10; refine (rnew_some n n1 n2 w1).mono ?_; rintro e w2 ⟨M, A, T, rfl, hr2, hM, hA, hTT, hB2⟩))
      have hs := hs'.out
      have hO : AcS w w2 (w.heap.size + 1) w.heap.size M A T w2.heap.size n (List.replicate n 0) (List.replicate n false) (List.replicate n 0) (List.replicate n false) (.slice none 0 0) [] :=
        ⟨hr.below hB2, hr2, World.ownsRow_nil _ _ 3 1, by simp, by omega, ⟨hr2.ltM, hr2.a.lt, hr2.t.lt⟩, Nat.le_refl _, by omega, hB.trans (hB2.mono (by omega))⟩
      clear hr hs' hB hs hr2 hM hA hTT hB2
      generalize w.heap.size + 1 = B at hO ⊢
      generalize w2.heap.size = lo at hO
      replace hO : ∃ G, AcS w w2 B G M A T lo n (List.replicate n 0) (List.replicate n false) (List.replicate n 0) (List.replicate n false) (.slice none 0 0) [] := ⟨_, hO⟩
      obtain ⟨G, hO⟩ := hO
      go_loopw [9, 35] (fun tv q wr => ∃ (k : Nat) (ag : List Nat) (tk : List Bool) (told : List Int), k ≤ acts.length ∧ q = .int .i64 k ∧ told.length ≤ k ∧ AcS w wr B G M A T lo n ag tk ag tk tv told) (fun _ q _ => 300 - (intOf q).toNat)
      case atStart => exact ⟨0, _, _, [], by omega, rfl, by simp, hO⟩
      case round =>
        clear hO n1 n2
        obtain ⟨k, ag, tk, told, hk, rfl, htl, hO⟩ := hrel
        obtain ⟨ta, tc, rfl⟩ := own_shape hO.t
        by_cases hlt : k < acts.length
        · obtain ⟨b', o, rfl, hc0, hc1⟩ := (ha.below hO.k) k acts[k] (by simp)
          have hlt' : (k : Int) < (acts.length : Int) := by omega
          have hk0 : (0 : Int) ≤ (k : Int) := by omega
          obtain ⟨_, _, hx0, hx1⟩ := hab _ (List.getElem_mem hlt)
          generalize acts[k] = act at hc0 hc1 hx0 hx1
          obtain ⟨kd, ai⟩ := act
          dsimp only at hc0 hc1 hx0 hx1
          go_upto_region 13 with fail
          have hO1 := hO.below ((Below.refl _ wr).alloc (Nat.le_refl _) (.cells #[.int .i64 kd, .int .i64 ai] 30))
          have v0 : (wr.alloc (.cells #[.int .i64 kd, .int .i64 ai] 30)).cell? ⟨wr.heap.size, 0, none⟩ = some (.int .i64 kd) := by simp [go_sem]
          have v1 : (wr.alloc (.cells #[.int .i64 kd, .int .i64 ai] 30)).cell? ⟨wr.heap.size, 1, none⟩ = some (.int .i64 ai) := by simp [go_sem]
          generalize wr.alloc (.cells #[.int .i64 kd, .int .i64 ai] 30) = W0 at hO1 v0 v1 ⊢
          generalize wr.heap.size = V at v0 v1 ⊢
          clear hO hc0 hc1
          obtain ⟨b, hb⟩ : ∃ b : Bool, Hid (b = (kd == 1 && decide (0 < told.length))) := ⟨_, rfl⟩
          go_cut [48, 35] from 35 to 106 (fun s48 q wx => s48 = .bool b ∧ q = .int .i64 k ∧ wx = W0)
          case first =>
            by_cases h1 : kd = 1
            · subst h1
              have hb' : decide (0 < told.length) = b := by rw [hb.out]; simp
              go_wp2_with fail
              go_meet
              case rel => exact ⟨by rw [← hb'], rfl, rfl⟩
            · have h1' : (kd == 1) = false := by simpa using h1
              have hb' : b = false := by rw [hb.out, h1']; rfl
              subst hb'
              go_wp2_with fail
              go_meet
              case rel => exact ⟨rfl, rfl, rfl⟩
          case rest =>
            obtain ⟨rfl, rfl, rfl⟩ := hcut
            go_upto_if 48 with fail
            go_cut [12, 35] from 35 to 106 (fun s12 q wx => q = .int .i64 k ∧ wx = wc ∧ ∃ z : Int, s12 = .int .i64 z ∧ -9223372036854775808 ≤ z ∧ z ≤ 9223372036854775807)
            case first =>
              cases b
              · go_wp2_with fail
                go_meet
                case rel => exact ⟨rfl, rfl, ai, rfl, hx0, hx1⟩
              · have hpos : 0 < told.length := by
                  have := hb.out
                  simp at this
                  exact this.2
                obtain ⟨u, hu⟩ : ∃ u : Nat, IntKind.u64.wrap ai = u := ⟨(IntKind.u64.wrap ai).toNat, by rw [IntKind.wrap_u64]; omega⟩
                have hub : u < 18446744073709551616 := by rw [IntKind.wrap_u64] at hu; omega
                have hjl : u % told.length < told.length := Nat.mod_lt _ hpos
                have hy := List.getElem?_eq_getElem hjl
                have hyb := hO1.tb _ (List.getElem_mem hjl)
                have e5 : Int.tmod (u : Int) (told.length : Int) = ((u % told.length : Nat) : Int) := by rw [Int.tmod_eq_emod_of_nonneg (by omega)]; omega
                have hw1 : IntKind.u64.wrap (told.length : Int) = (told.length : Int) := by rw [IntKind.wrap_u64]; omega
                have hw2 : IntKind.u64.wrap ((u % told.length : Nat) : Int) = ((u % told.length : Nat) : Int) := by rw [IntKind.wrap_u64]; have := Nat.mod_le u told.length; omega
                generalize told[u % told.length] = y at hy hyb
                generalize u % told.length = j at hjl hy e5 hw2
                obtain ⟨ta', tc', et, hti⟩ := hO1.t.open'
                simp only [Value.slice.injEq] at et
                obtain ⟨rfl, -, rfl⟩ := et
                obtain ⟨g, rfl, hcj⟩ := hti j y hy
                have hj0 : (0 : Int) ≤ (j : Int) := by omega
                have hj1 : (j : Int) < (told.length : Int) := by omega
                clear hti hy
                go_wp2_with fail
                go_meet
                case rel => exact ⟨rfl, rfl, y, rfl, by omega, by omega⟩
            case rest =>
              obtain ⟨rfl, rfl, z, rfl, hz0, hz1⟩ := hcut
              clear hb hx0 hx1
              go_upto_if 61 with fail
              go_cut [9, 13, 14, 15, 16, 35] from 35 to 106 (fun s9 _ _ _ _ q wx => q = .int .i64 k ∧ ∃ (ag : List Nat) (tk : List Bool) (told : List Int), told.length ≤ k + 1 ∧ AcS w wx B G M A T lo n ag tk ag tk s9 told)
              case first =>
                clear v0 v1
                by_cases hkd : kd = 0
                · subst hkd
                  have hbd := takeI_bd ag tk
                  have TK := take_any hO1.q (hO1.tab hT)
                  have RT : ∀ W, RS W M A T n ag tk → Calls Tryd.prog 12 #[.pointer (some ⟨M, 0, none⟩)] W fun e w' => e = .returned (.tuple #[.int .i64 (takeI ag tk), .int .i64 (takeE ag tk)]) ∧ RS w' M A T n (takeA ag tk) (takeT ag tk) ∧ But [A, T] W w' := fun W h => rtake_any h
                  generalize takeI ag tk = y at TK RT hbd
                  generalize takeE ag tk = er at TK RT
                  generalize takeA ag tk = ag2 at TK RT
                  generalize takeT ag tk = tk2 at TK RT
                  go_wp2_with (first
                    | (go_at_call 11; refine TK.mono ?_; rintro e w3 ⟨rfl, hq3, hb3⟩; have hO3 := hO1.stepP hq3 hb3; clear hq3 hb3 TK)
                    | (go_at_call 12; refine (RT _ hO3.r).mono ?_; rintro e w4 ⟨rfl, hr4, hb4⟩; have hO4 := hO3.stepR hr4 hb4; clear hr4 hb4 RT hO3)
                    | (at_builtin; refine wpList_app1 rfl (.tmp 80) (.tmp 82) rfl lo _ told rfl (AcS.below hO4 ((Below.refl _ w4).alloc (Nat.le_refl _) _)).t _ _ y rfl (reads_one _ _) (by omega) (AcS.below hO4 ((Below.refl _ w4).alloc (Nat.le_refl _) _)).sz ?_; intro v5 w5 hr5 hg5 _; have hO5 := (AcS.below hO4 ((Below.refl _ w4).alloc (Nat.le_refl _) _)).app hbd hr5 hg5; clear hr5 hg5 hO4))
                  go_meet
                  case rel => exact ⟨rfl, ag2, tk2, told ++ [y], by simp; omega, hO5⟩
                · have hkd' : (kd == 0) = false := by simpa using hkd
                  have FR := free_any hO1.q z hz0 hz1
                  have RF : ∀ W, RS W M A T n ag tk → Calls Tryd.prog 14 #[.pointer (some ⟨M, 0, none⟩), .int .i64 z] W fun e w' => e = .returned (.int .i64 (freeE ag tk z)) ∧ RS w' M A T n ag (freeT ag tk z) ∧ But [T] W w' := fun W h => rfree_any h z hz1
                  generalize freeE ag tk z = er at FR RF
                  generalize freeT ag tk z = tk2 at FR RF
                  go_wp2_with (first
                    | (go_at_call 13; refine FR.mono ?_; rintro e w3 ⟨rfl, hq3, hb3⟩; have hO3 := hO1.stepP hq3 (hb3.mono (by simp)); clear hq3 hb3 FR)
                    | (go_at_call 14; refine (RF _ hO3.r).mono ?_; rintro e w4 ⟨rfl, hr4, hb4⟩; have hO4 := hO3.stepR hr4 (hb4.mono (by simp)); clear hr4 hb4 RF hO3))
                  go_meet
                  case rel => exact ⟨rfl, ag, tk2, told, by omega, hO4⟩
              case rest =>
                clear hO1 v0 v1 htl
                obtain ⟨rfl, ag, tk, told, htl, hO⟩ := hcut
                have LV := live_any hO.q z hz0 hz1
                have RL : ∀ W, RS W M A T n ag tk → Calls Tryd.prog 16 #[.pointer (some ⟨M, 0, none⟩), .int .i64 z] W fun e w' => e = .returned (.bool (liveB ag tk z)) ∧ Drawn W w' := fun W h => rlive_any h z hz1
                have LN : ∀ W, SQ W B G n ag tk → Calls Tryd.prog 17 #[.pointer (some ⟨B, 0, none⟩)] W fun e w' => e = .returned (.int .i64 ((tk.count true : Nat) : Int)) ∧ w' = W := fun W h => len_any h
                have RA : ∀ W, RS W M A T n ag tk → Calls Tryd.prog 18 #[.pointer (some ⟨M, 0, none⟩)] W fun e w' => ∃ a c, e = .returned (.slice a (tk.count true) c) ∧ Below W.heap.size W w' := fun W h => rall_count h
                generalize liveB ag tk z = lb at LV RL
                generalize tk.count true = ct at LN RA
                go_wp2_with (first
                  | (go_at_call 15; refine LV.mono ?_; rintro e w3 ⟨rfl, hd3⟩; have hO3 := hO.drawn hd3; clear hd3 LV)
                  | (go_at_call 16; refine (RL _ hO3.r).mono ?_; rintro e w4 ⟨rfl, hd4⟩; have hO4 := hO3.drawn hd4; clear hd4 RL hO3)
                  | (go_at_call 17; refine (LN _ hO4.q).mono ?_; rintro e w' ⟨rfl, hw⟩; subst w'; clear LN)
                  | (go_at_call 18; refine (RA _ hO4.r).mono ?_; rintro e w5 ⟨a5, c5, rfl, hb5⟩; have hO5 := hO4.below hb5; clear hb5 RA hO4))
                go_roundw
                case rel => exact ⟨k + 1, ag, tk, told, by omega, by simp, htl, hO5⟩
                case measure =>
                  simp [intOf]
                  omega
        · obtain rfl : k = acts.length := by omega
          have hln : (allL ag tk).length ≤ 4096 := by
            rw [allL_count]
            have h1 := hO.r.tl
            have h2 := hO.r.le
            have h3 := List.count_le_length (a := true) (l := tk)
            omega
          have LV : ∀ W, SQ W B G n ag tk → Calls Tryd.prog 15 #[.pointer (some ⟨B, 0, none⟩), .int .i64 id] W fun e w' => e = .returned (.bool (liveB ag tk id)) ∧ Drawn W w' := fun W h => live_any h id hi0 hi1
          have RL : ∀ W, RS W M A T n ag tk → Calls Tryd.prog 16 #[.pointer (some ⟨M, 0, none⟩), .int .i64 id] W fun e w' => e = .returned (.bool (liveB ag tk id)) ∧ Drawn W w' := fun W h => rlive_any h id hi1
          have FR : ∀ W, SQ W B G n ag tk → Calls Tryd.prog 13 #[.pointer (some ⟨B, 0, none⟩), .int .i64 id] W fun e w' => e = .returned (.int .i64 (freeE ag tk id)) ∧ SQ w' B G n ag (freeT ag tk id) ∧ But [B] W w' := fun W h => free_any h id hi0 hi1
          have RF : ∀ W, RS W M A T n ag tk → Calls Tryd.prog 14 #[.pointer (some ⟨M, 0, none⟩), .int .i64 id] W fun e w' => e = .returned (.int .i64 (freeE ag tk id)) ∧ RS w' M A T n ag (freeT ag tk id) ∧ But [T] W w' := fun W h => rfree_any h id hi1
          have AL := all_any hO.q
          have RA : ∀ W, RS W M A T n ag tk → Calls Tryd.prog 18 #[.pointer (some ⟨M, 0, none⟩)] W fun e w' => ∃ v, e = .returned v ∧ RowI w' W.heap.size v (allL ag tk) ∧ Below W.heap.size W w' := fun W h => rall_any h
          generalize liveB ag tk id = lb at LV RL
          generalize freeE ag tk id = er at FR RF
          generalize freeT ag tk id = tk2 at FR RF
          generalize allL ag tk = al at AL RA hln
          go_wp2_with (first
            | (go_at_call 20; refine AL.mono ?_; rintro e w3 ⟨v3, rfl, hr3, hb3⟩; have hO3 := hO.below hb3; clear hb3 AL)
            | (go_at_call 18; refine (RA _ hO3.r).mono ?_; rintro e w4 ⟨v4, rfl, hr4, hb4⟩; have hO4 := hO3.below hb4; have hr3' := hr3.below hb4; obtain ⟨a3, c3, rfl, i3⟩ := hr3'.open'; obtain ⟨a4, c4, rfl, i4⟩ := hr4.open'; clear hb4 RA hO3 hr3 hr4 hr3')
            | (go_at_call 19; refine (ints_any a3 a4 c3 c4 al w4 hln i3 i4).mono ?_; rintro e w5 ⟨rfl, hb5⟩; have hO5 := hO4.below hb5; clear hb5 hO4)
            | (go_at_call 15; refine (LV _ hO5.q).mono ?_; rintro e w6 ⟨rfl, hd6⟩; have hO6 := hO5.drawn hd6; clear hd6 LV hO5)
            | (go_at_call 16; refine (RL _ hO6.r).mono ?_; rintro e w7 ⟨rfl, hd7⟩; have hO7 := hO6.drawn hd7; clear hd7 RL hO6)
            | (go_at_call 13; refine (FR _ hO7.q).mono ?_; rintro e w8 ⟨rfl, hq8, hb8⟩; have hO8 := hO7.stepP hq8 (hb8.mono (by simp)); clear hq8 hb8 FR)
            | (go_at_call 14; refine (RF _ hO8.r).mono ?_; rintro e w9 ⟨rfl, hr9, hb9⟩; have hO9 := hO8.stepR hr9 (hb9.mono (by simp)); clear hr9 hb9 RF hO8)
            | (go_at_call 8; refine (lives_any _ (hO9.tab hT)).mono ?_; rintro e w10 ⟨rfl, hb10⟩))
          go_ret
          exact ⟨rfl, hO9.k.trans (hb10.mono hO9.k.size)⟩
end Go.Proofs.YtkoekdbkjjjoaaaDoor
