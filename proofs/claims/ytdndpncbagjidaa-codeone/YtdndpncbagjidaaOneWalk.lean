/- CodeOne's walk. -/
import Derived.Test.YtdndpncbagjidaaSrc
import Derived.Test.YtdndpncbagjidaaPutL
import Derived.Test.YtdndpncbagjidaaRead
import Derived.Test.YtdndpncbagjidaaHold
import Derived.Laws.Strings2
import Derived.Deep.CutRange
namespace Go.Proofs.Ytdndpncbagjidaa
open Go.RowKit

theorem numT_max (bs : List UInt8) : numT 18446744073709551615 bs = numG 0 0 bs := by
  unfold numT
  simp only
  split
  · rename_i h
    have := (numG_back (x := bs) (t := (numG 0 0 bs).2.2) (n := (numG 0 0 bs).2.1) (Prod.ext h rfl)).2
    rw [if_neg (by omega)]
  · rfl
theorem num_max {xs : List UInt8} (W : World) (S : Nat) (h : SQ W S (0, xs)) :
    Calls Try.prog 28 #[.pointer (some ⟨S, 0, none⟩), .int .u64 18446744073709551615] W fun e w' => e = .returned (.int .u64 ((numG 0 0 xs).2.1 : Int)) ∧ But [S] W w' ∧ SQ w' S ((numG 0 0 xs).1, (numG 0 0 xs).2.2) := by
  refine (src28 (0, xs) W h 18446744073709551615).mono ?_
  rintro e w' ⟨hb, hs, v, rfl, hv⟩
  have e : getS (numT 18446744073709551615) 0 (0, xs) = ((numG 0 0 xs).2.1, (numG 0 0 xs).1, (numG 0 0 xs).2.2) := by
    unfold getS
    rw [if_pos rfl, numT_max]
  rw [e] at hs hv
  exact ⟨by rw [hv], hb, hs⟩
theorem tl_ne {p q : ByteArray} (h : p ≠ q) : (p.toList == q.toList) = false := by
  rw [ByteArray.toList_eq, ByteArray.toList_eq]
  simp
  intro e
  exact h (ByteArray.ext e)
theorem ext_take (l : List UInt8) (n : Nat) : (⟨l.toArray⟩ : ByteArray).extract 0 n = ⟨(l.take n).toArray⟩ := by
  rw [Go.ByteArray.extract_mk]
  simp
/-- Unlike numbers' bytes: none of them begin the other ones. -/
theorem apart {a b : Nat} (ha : a < 2 ^ 64) (hb : b < 2 ^ 64) (hab : a ≠ b) {n : Nat} : (⟨(numL b).toArray⟩ : ByteArray).extract 0 n ≠ ⟨(numL a).toArray⟩ := by
  intro h
  rw [ext_take] at h
  have h1 : (numL b).take n = numL a := by
    have := congrArg (fun x : ByteArray => x.data.toList) h
    simpa using this
  have h2 := numG_put hb []
  rw [List.append_nil, ← List.take_append_drop n (numL b), h1, numG_put ha] at h2
  simp only [Prod.mk.injEq, true_and] at h2
  exact hab h2.1
theorem apart' {a b : Nat} (ha : a < 2 ^ 64) (hb : b < 2 ^ 64) (hab : a ≠ b) : (⟨(numL a).toArray⟩ : ByteArray) ≠ ⟨(numL b).toArray⟩ := by
  intro h
  have h1 : numL a = numL b := by
    have := congrArg (fun x : ByteArray => x.data.toList) h
    simpa using this
  have h2 := numG_put hb []
  rw [← h1, numG_put ha] at h2
  simp only [Prod.mk.injEq, true_and] at h2
  exact hab h2.1

set_option maxRecDepth 100000 in
set_option maxHeartbeats 2000000 in
theorem one_any (a b : Nat) (xa : Option Addr) (xc : Nat) (xs : List UInt8) (w : World) (ha : a < 2 ^ 64) (hb : b < 2 ^ 64) (hx : Byts w w.heap.size xa xc xs) :
    Calls Try.prog 6 #[.int .u64 (a : Int), .int .u64 (b : Int), .slice xa xs.length xc] w fun e w' => e = .returned (.bool true) ∧ Below w.heap.size w w' := by
  have CN : ∀ (w' : World) (n : Nat), n < 2 ^ 64 → Calls Try.prog 10 #[.slice none 0 0, .int .u64 (n : Int)] w' fun e w2 => ∃ v', e = .returned v' ∧ Own w2 w'.heap.size v' (numL n) ∧ Below w'.heap.size w' w2 := fun w' n hn => cnum (B := 0) (bs := []) (.inl ⟨rfl, rfl⟩) n hn (by simp)
  by_cases hl : 20 < xs.length
  · have k : (20 : Int) < xs.length := by omega
    have hv := lives_any w
    go_enter Try.func6, Try.ntmps6
    go_wp2_with (go_at_call 9; refine hv.mono ?_; rintro e w2 ⟨rfl, hb2⟩)
    go_ret
    exact ⟨rfl, hb2⟩
  · have k : ¬ (20 : Int) < xs.length := by omega
    go_enter Try.func6, Try.ntmps6
    go_wp2_with fail
    refine wp_region_held_drew (S := (fun _ => True)) (by kernel_rfl) trivial (fun hHeld => ?_)
    refine anyH_take (i := 0) (v := ?_) (some 16) rfl rfl (by kernel_rfl) (fun _ _ _ h => h) (Or.inl ⟨by rfl, ?_⟩) (by assumption) ?_
    rotate_left
    · (intro w hSw; go_simp; all_goals with_reducible rfl)
    try simp only [Act.put, List.setIfInBounds_toArray, List.set_cons_zero, List.set_cons_succ]
    refine anyH_take (i := 3) (v := ?_) (some 19) rfl rfl (by kernel_rfl) (fun _ _ _ h => h) (Or.inl ⟨by rfl, ?_⟩) (by assumption) ?_
    rotate_left
    · (intro w hSw; go_simp; all_goals with_reducible rfl)
    try simp only [Act.put, List.setIfInBounds_toArray, List.set_cons_zero, List.set_cons_succ]
    refine anyH_one (i := 1) (by kernel_rfl) rfl (fun K hK => ?_)
    go_simp
    go_at_call 10
    refine (CN _ a ha).mono ?_
    rintro e w1 ⟨v1, rfl, ho1, hb1⟩
    refine hK.out _ _ trivial (fun hHeld => ?_)
    clear hK K
    try simp only [Act.put, List.setIfInBounds_toArray, List.set_cons_zero, List.set_cons_succ]
    refine anyH_mono (S2 := (fun w' => True ∧ Own w' w.drew.heap.size v1 (numL a))) (fun _ h => h.1) ?_
    replace hHeld : (fun w' => True ∧ Own w' w.drew.heap.size v1 (numL a)) _ := ⟨trivial, ho1⟩
    refine anyH_take (i := 2) (v := ?_) (some 18) rfl rfl (by kernel_rfl) (fun _ _ _ h => h) (Or.inl ⟨by rfl, ?_⟩) (by assumption) ?_
    rotate_left
    · (intro w hSw; have q1 := conv_own hSw.2; go_simp; all_goals with_reducible rfl)
    try simp only [Act.put, List.setIfInBounds_toArray, List.set_cons_zero, List.set_cons_succ]
    refine anyH_one (i := 4) (by kernel_rfl) rfl (fun K hK => ?_)
    go_simp
    go_at_call 10
    refine (CN _ b hb).mono ?_
    rintro e w2 ⟨v2, rfl, ho2, hb2⟩
    refine hK.out _ _ ⟨trivial, ho1.below hb2⟩ (fun hHeld => ?_)
    clear hK K
    try simp only [Act.put, List.setIfInBounds_toArray, List.set_cons_zero, List.set_cons_succ]
    refine anyH_mono (S2 := (fun w' => (True ∧ Own w' w.drew.heap.size v1 (numL a)) ∧ Own w' w1.heap.size v2 (numL b))) (fun _ h => h.1) ?_
    replace hHeld : (fun w' => (True ∧ Own w' w.drew.heap.size v1 (numL a)) ∧ Own w' w1.heap.size v2 (numL b)) _ := ⟨hHeld, ho2⟩
    refine anyH_take (i := 5) (v := ?_) (some 21) rfl rfl (by kernel_rfl) (fun _ _ _ h => h) (Or.inl ⟨by rfl, ?_⟩) (by assumption) ?_
    rotate_left
    · (intro w hSw; have q1 := conv_own hSw.2; go_simp; all_goals with_reducible rfl)
    try simp only [Act.put, List.setIfInBounds_toArray, List.set_cons_zero, List.set_cons_succ]
    refine anyH_take (i := 6) (v := ?_) (some 7) rfl rfl (by kernel_rfl) (fun _ _ _ h => h) (Or.inl ⟨by rfl, ?_⟩) (by assumption) ?_
    rotate_left
    · (intro w hSw; go_simp; all_goals with_reducible rfl)
    try simp only [Act.put, List.setIfInBounds_toArray, List.set_cons_zero, List.set_cons_succ]
    refine anyH_take (i := 7) (v := ?_) (some 8) rfl rfl (by kernel_rfl) (fun _ _ _ h => h) (Or.inl ⟨by rfl, ?_⟩) (by assumption) ?_
    rotate_left
    · (intro w hSw; go_simp; all_goals with_reducible rfl)
    try simp only [Act.put, List.setIfInBounds_toArray, List.set_cons_zero, List.set_cons_succ]
    refine wpAnyH_done (by kernel_rfl) ?_ _
    have hpp : (numL a).length ≤ 11 := numL_len a
    have hqq : (numL b).length ≤ 11 := numL_len b
    have HP : Hid ((⟨(numL a).toArray⟩ : ByteArray).size = (numL a).length) := Hid.mk (by simp [ByteArray.size])
    have HQ : Hid ((⟨(numL b).toArray⟩ : ByteArray).size = (numL b).length) := Hid.mk (by simp [ByteArray.size])
    have f1 : a ≠ b → (⟨(numL a).toArray⟩ : ByteArray) ≠ ⟨(numL b).toArray⟩ := apart' ha hb
    have f2 : a ≠ b → ∀ n, (⟨(numL b).toArray⟩ : ByteArray).extract 0 n ≠ ⟨(numL a).toArray⟩ := fun h n => apart ha hb h
    have f3 : a ≠ b → ∀ n, (⟨(numL a).toArray⟩ : ByteArray).extract 0 n ≠ ⟨(numL b).toArray⟩ := fun h n => apart hb ha (Ne.symm h)
    clear hHeld
    generalize (⟨(numL a).toArray⟩ : ByteArray) = p at *
    generalize (⟨(numL b).toArray⟩ : ByteArray) = q at *
    have hps : (p.size : Int) ≤ 11 := by have := HP.out; omega
    have hqs : (q.size : Int) ≤ 11 := by have := HQ.out; omega
    have hd : But [] w w2 := ((But.refl [] w).drew.trans (.of_below hb1)).trans (.of_below hb2)
    go_upto_region 4 with fail
    go_cut [59] from 22 to 59 (fun v wr => v = .bool false ∧ wr = w2)
    case first =>
      by_cases hab : a = b
      · have hab' : ((a : Int) != (b : Int)) = false := by simp; omega
        clear f1 f2 f3 hab
        go_wp2_with fail
        go_meet
        case rel => exact ⟨rfl, rfl⟩
      · have hab' : ((a : Int) != (b : Int)) = true := by simp; omega
        have g1 := tl_ne (f1 hab)
        have g2 := fun n => tl_ne (f2 hab n)
        have g3 := fun n => tl_ne (f3 hab n)
        clear f1 f2 f3
        by_cases hsz : p.size ≤ q.size
        · have hsz' : (p.size : Int) ≤ q.size := by omega
          have hsz2 : ¬ (q.size : Int) < p.size := by omega
          go_wp2_with fail
          go_meet
          case rel => exact ⟨rfl, rfl⟩
        · have hsz' : ¬ (p.size : Int) ≤ q.size := by omega
          have hsz2 : (q.size : Int) < p.size := by omega
          have hsz3 : (q.size : Int) ≤ p.size := by omega
          go_wp2_with fail
          go_meet
          case rel => exact ⟨rfl, rfl⟩
    case rest =>
      obtain ⟨rfl, rfl⟩ := hcut
      clear f1 f2 f3 hps hqs HP HQ hpp hqq ho1 ho2
      have hx2 : Byts wc wc.heap.size xa xc xs := (hx.but hd (by simp)).up hd.size
      have CR := read_any hx2 (by omega)
      have C2 : ∀ W S, SQ W S (0, xs) → _ := fun W S h => num_max (xs := xs) W S h
      have hmx : ∀ y ∈ [(numG 0 0 xs).1], y = (numG 0 0 xs).1 := by simp
      have hsh := numG_short xs 0 0
      have hbk : (numG 0 0 xs).1 = 0 → xs = numL (numG 0 0 xs).2.1 ++ (numG 0 0 xs).2.2 ∧ (numG 0 0 xs).2.1 < 2 ^ 64 := fun h => numG_back (Prod.ext h rfl)
      generalize (numG 0 0 xs).1 = x at *
      generalize (numG 0 0 xs).2.1 = n at *
      generalize (numG 0 0 xs).2.2 = tl at *
      obtain ⟨k, hk⟩ : ∃ k : Nat, (xs.length : Int) - (tl.length : Int) = (k : Int) := ⟨xs.length - tl.length, by omega⟩
      have HB := Hid.mk hbk
      clear hbk hmx hl
      have kk : (tl.length : Int) ≤ xs.length := by omega
      have Hk : Hid (k = xs.length - tl.length) := Hid.mk (by omega)
      have hxl := hx.len
      have hxm := hx.cap
      unfold maxLen at hxm
      have q1 : (k : Int) ≤ xc := by omega
      have q2 : (xc : Int) ≤ 9223372036854775807 := by omega
      have q3 : (0 : Int) ≤ k := by omega
      go_wp2_with (first
        | (go_at_call 20; refine CR.mono ?_; rintro e w3 ⟨S, rfl, hS, hq3, hb3⟩)
        | (go_at_call 28; refine (C2 _ _ hq3).mono ?_; rintro e w4 ⟨rfl, hb4, hq4⟩)
        | (go_at_call 24; refine (left_any S _ _ hq4).mono ?_; rintro e w5 ⟨rfl, rfl⟩))
      have hx5 : Byts w5 wc.heap.size xa xc xs := (hx2.but (S := []) (.of_below hb3) (by simp)).but hb4 (by simpa using hS)
      have hB5 : But [] w w5 := hd.trans ((But.of_below (S := []) hb3).trans_new hb4 (by simpa using hS))
      have hx6 : Byts w5.drew wc.heap.size xa xc xs := hx5.but (S := []) (But.refl [] w5).drew (by simp)
      obtain ⟨sb, hsr, hs0, hs1⟩ := hq4
      have hE : ∀ W, But [] w5 W → _ := fun W hb => err_any S x sb W (hsr.keep hb)
      clear hs0 hs1
      by_cases hx0 : x = 0
      · obtain ⟨hsplit, hn64⟩ := HB.out hx0
        have htk : xs.take k = numL n := by
          have e1 := Hk.out
          have e2 : xs.length = (numL n).length + tl.length := by rw [hsplit, List.length_append]
          rw [e1, hsplit, List.length_append, Nat.add_sub_cancel]
          exact List.take_left
        have hcv : ∀ W, Byts W wc.heap.size xa xc xs → (convert 22 9 (.slice xa k xc)).run Try.prog W = .ok (.string ⟨(numL n).toArray⟩) W := fun W h => by
          have := conv_byts (h.take k) (l := k) (by rw [htk]; have := congrArg List.length htk; rw [List.length_take] at this; have := Hk.out; omega)
          rw [htk] at this
          exact this
        have hCN := fun W => CN W n hn64
        subst hx0
        clear hsplit htk HB
        refine wp_region_held_drew (S := (fun w' => Byts w' wc.heap.size xa xc xs)) (by kernel_rfl) hx6 (fun hHeld => ?_)
        refine anyH_take (i := 0) (v := ?_) (some 69) rfl rfl (by kernel_rfl) (fun _ _ _ h => h) (Or.inl ⟨by rfl, ?_⟩) (by assumption) ?_
        rotate_left
        · (intro w hSw; go_simp; all_goals with_reducible rfl)
        try simp only [Act.put, List.setIfInBounds_toArray, List.set_cons_zero, List.set_cons_succ]
        refine anyH_one (i := 1) (by kernel_rfl) rfl (fun K hK => ?_)
        go_simp
        go_at_call 23
        refine (hE _ (But.refl [] w5).drew).mono ?_
        rintro e w6 ⟨rfl, rfl⟩
        refine hK.out _ _ hHeld (fun hHeld => ?_)
        clear hK K
        try simp only [Act.put, List.setIfInBounds_toArray, List.set_cons_zero, List.set_cons_succ]
        refine anyH_take (i := 2) (v := ?_) (some 71) rfl rfl (by kernel_rfl) (fun _ _ _ h => h) (Or.inl ⟨by rfl, ?_⟩) (by assumption) ?_
        rotate_left
        · (intro w hSw; go_simp; all_goals with_reducible rfl)
        try simp only [Act.put, List.setIfInBounds_toArray, List.set_cons_zero, List.set_cons_succ]
        refine anyH_take (i := 3) (v := ?_) (some 72) rfl rfl (by kernel_rfl) (fun _ _ _ h => h) (Or.inl ⟨by rfl, ?_⟩) (by assumption) ?_
        rotate_left
        · (intro w hSw; go_simp; all_goals with_reducible rfl)
        try simp only [Act.put, List.setIfInBounds_toArray, List.set_cons_zero, List.set_cons_succ]
        refine anyH_take (i := 4) (v := ?_) (some 73) rfl rfl (by kernel_rfl) (fun _ _ _ h => h) (Or.inl ⟨by rfl, ?_⟩) (by assumption) ?_
        rotate_left
        · (intro w hSw; go_simp; all_goals with_reducible rfl)
        try simp only [Act.put, List.setIfInBounds_toArray, List.set_cons_zero, List.set_cons_succ]
        refine anyH_take (i := 7) (v := ?_) (some 76) rfl rfl (by kernel_rfl) (fun _ _ _ h => h) (Or.inl ⟨by rfl, ?_⟩) (by assumption) ?_
        rotate_left
        · (intro w hSw; go_simp; all_goals with_reducible rfl)
        try simp only [Act.put, List.setIfInBounds_toArray, List.set_cons_zero, List.set_cons_succ]
        refine anyH_take (i := 8) (v := ?_) (some 77) rfl rfl (by kernel_rfl) (fun _ _ _ h => h) (Or.inl ⟨by rfl, ?_⟩) (by assumption) ?_
        rotate_left
        · (intro w hSw; go_simp; all_goals with_reducible rfl)
        try simp only [Act.put, List.setIfInBounds_toArray, List.set_cons_zero, List.set_cons_succ]
        refine anyH_take (i := 9) (v := ?_) (some 78) rfl rfl (by kernel_rfl) (fun _ _ _ h => h) (Or.inl ⟨by rfl, ?_⟩) (by assumption) ?_
        rotate_left
        · (intro w hSw; go_simp; all_goals with_reducible rfl)
        try simp only [Act.put, List.setIfInBounds_toArray, List.set_cons_zero, List.set_cons_succ]
        refine anyH_take (i := 10) (v := ?_) (some 79) rfl rfl (by kernel_rfl) (fun _ _ _ h => h) (Or.inl ⟨by rfl, ?_⟩) (by assumption) ?_
        rotate_left
        · (intro w hSw; have q9 := hcv _ hSw; go_simp; all_goals with_reducible rfl)
        try simp only [Act.put, List.setIfInBounds_toArray, List.set_cons_zero, List.set_cons_succ]
        refine anyH_one (i := 5) (by kernel_rfl) rfl (fun K hK => ?_)
        go_simp
        go_at_call 10
        refine (hCN _).mono ?_
        rintro e w7 ⟨v7, rfl, ho7, hb7⟩
        refine hK.out _ _ (hHeld.but (S := []) (.of_below hb7) (by simp)) (fun hHeld => ?_)
        clear hK K
        try simp only [Act.put, List.setIfInBounds_toArray, List.set_cons_zero, List.set_cons_succ]
        refine anyH_mono (S2 := (fun w' => Byts w' wc.heap.size xa xc xs ∧ Own w' w5.drew.heap.size v7 (numL n))) (fun _ h => h.1) ?_
        replace hHeld : (fun w' => Byts w' wc.heap.size xa xc xs ∧ Own w' w5.drew.heap.size v7 (numL n)) _ := ⟨hHeld, ho7⟩
        refine anyH_take (i := 6) (v := ?_) (some 75) rfl rfl (by kernel_rfl) (fun _ _ _ h => h) (Or.inl ⟨by rfl, ?_⟩) (by assumption) ?_
        rotate_left
        · (intro w hSw; have q9 := conv_own hSw.2; go_simp; all_goals with_reducible rfl)
        try simp only [Act.put, List.setIfInBounds_toArray, List.set_cons_zero, List.set_cons_succ]
        refine anyH_take (i := 11) (v := ?_) (some 80) rfl rfl (by kernel_rfl) (fun _ _ _ h => h) (Or.inl ⟨by rfl, ?_⟩) (by assumption) ?_
        rotate_left
        · (intro w hSw; go_simp; all_goals with_reducible rfl)
        try simp only [Act.put, List.setIfInBounds_toArray, List.set_cons_zero, List.set_cons_succ]
        refine anyH_take (i := 12) (v := ?_) (some 81) rfl rfl (by kernel_rfl) (fun _ _ _ h => h) (Or.inl ⟨by rfl, ?_⟩) (by assumption) ?_
        rotate_left
        · (intro w hSw; go_simp; all_goals with_reducible rfl)
        try simp only [Act.put, List.setIfInBounds_toArray, List.set_cons_zero, List.set_cons_succ]
        refine anyH_take (i := 13) (v := ?_) (some 82) rfl rfl (by kernel_rfl) (fun _ _ _ h => h) (Or.inl ⟨by rfl, ?_⟩) (by assumption) ?_
        rotate_left
        · (intro w hSw; go_simp; all_goals with_reducible rfl)
        try simp only [Act.put, List.setIfInBounds_toArray, List.set_cons_zero, List.set_cons_succ]
        refine anyH_one (i := 14) (by kernel_rfl) rfl (fun K hK => ?_)
        go_simp
        go_at_call 9
        refine (lives_any _).mono ?_
        rintro e w8 ⟨rfl, hb8⟩
        refine hK.out _ _ ⟨hHeld.1.but (S := []) (.of_below hb8) (by simp), hHeld.2.below hb8⟩ (fun hHeld => ?_)
        clear hK K
        try simp only [Act.put, List.setIfInBounds_toArray, List.set_cons_zero, List.set_cons_succ]
        refine anyH_take (i := 15) (v := ?_) (some 84) rfl rfl (by kernel_rfl) (fun _ _ _ h => h) (Or.inl ⟨by rfl, ?_⟩) (by assumption) ?_
        rotate_left
        · (intro w hSw; go_simp; all_goals with_reducible rfl)
        try simp only [Act.put, List.setIfInBounds_toArray, List.set_cons_zero, List.set_cons_succ]
        refine anyH_take (i := 16) (v := ?_) (some 6) rfl rfl (by kernel_rfl) (fun _ _ _ h => h) (Or.inl ⟨by rfl, ?_⟩) (by assumption) ?_
        rotate_left
        · (intro w hSw; go_simp; all_goals with_reducible rfl)
        try simp only [Act.put, List.setIfInBounds_toArray, List.set_cons_zero, List.set_cons_succ]
        refine wpAnyH_done (by kernel_rfl) ?_ _
        go_wp2_with fail
        go_ret
        exact ⟨rfl, (((hB5.trans (But.refl [] w5).drew).trans (.of_below hb7)).trans (.of_below hb8)).to_below⟩
      · have hxi : ((x : Int) != 0) = true := by simp; omega
        clear HB
        refine wp_region_held_drew (S := (fun w' => Byts w' wc.heap.size xa xc xs)) (by kernel_rfl) hx6 (fun hHeld => ?_)
        refine anyH_take (i := 0) (v := ?_) (some 69) rfl rfl (by kernel_rfl) (fun _ _ _ h => h) (Or.inl ⟨by rfl, ?_⟩) (by assumption) ?_
        rotate_left
        · (intro w hSw; go_simp; all_goals with_reducible rfl)
        try simp only [Act.put, List.setIfInBounds_toArray, List.set_cons_zero, List.set_cons_succ]
        refine anyH_one (i := 1) (by kernel_rfl) rfl (fun K hK => ?_)
        go_simp
        go_at_call 23
        refine (hE _ (But.refl [] w5).drew).mono ?_
        rintro e w6 ⟨rfl, rfl⟩
        refine hK.out _ _ hHeld (fun hHeld => ?_)
        clear hK K
        try simp only [Act.put, List.setIfInBounds_toArray, List.set_cons_zero, List.set_cons_succ]
        refine anyH_take (i := 2) (v := ?_) (some 71) rfl rfl (by kernel_rfl) (fun _ _ _ h => h) (Or.inl ⟨by rfl, ?_⟩) (by assumption) ?_
        rotate_left
        · (intro w hSw; go_simp; all_goals with_reducible rfl)
        try simp only [Act.put, List.setIfInBounds_toArray, List.set_cons_zero, List.set_cons_succ]
        refine anyH_take (i := 3) (v := ?_) (some 72) rfl rfl (by kernel_rfl) (fun _ _ _ h => h) (Or.inl ⟨by rfl, ?_⟩) (by assumption) ?_
        rotate_left
        · (intro w hSw; go_simp; all_goals with_reducible rfl)
        try simp only [Act.put, List.setIfInBounds_toArray, List.set_cons_zero, List.set_cons_succ]
        refine anyH_take (i := 4) (v := undef) (some 73) rfl rfl (by kernel_rfl) (fun _ _ _ h => h) (Or.inr ⟨by rfl, rfl⟩) (by assumption) ?_
        try simp only [Act.put, List.setIfInBounds_toArray, List.set_cons_zero, List.set_cons_succ]
        refine anyH_take (i := 5) (v := undef) (some 74) rfl rfl (by kernel_rfl) (fun _ _ _ h => h) (Or.inr ⟨by rfl, rfl⟩) (by assumption) ?_
        try simp only [Act.put, List.setIfInBounds_toArray, List.set_cons_zero, List.set_cons_succ]
        refine anyH_take (i := 6) (v := undef) (some 75) rfl rfl (by kernel_rfl) (fun _ _ _ h => h) (Or.inr ⟨by rfl, rfl⟩) (by assumption) ?_
        try simp only [Act.put, List.setIfInBounds_toArray, List.set_cons_zero, List.set_cons_succ]
        refine anyH_take (i := 7) (v := undef) (some 76) rfl rfl (by kernel_rfl) (fun _ _ _ h => h) (Or.inr ⟨by rfl, rfl⟩) (by assumption) ?_
        try simp only [Act.put, List.setIfInBounds_toArray, List.set_cons_zero, List.set_cons_succ]
        refine anyH_take (i := 8) (v := undef) (some 77) rfl rfl (by kernel_rfl) (fun _ _ _ h => h) (Or.inr ⟨by rfl, rfl⟩) (by assumption) ?_
        try simp only [Act.put, List.setIfInBounds_toArray, List.set_cons_zero, List.set_cons_succ]
        refine anyH_take (i := 9) (v := undef) (some 78) rfl rfl (by kernel_rfl) (fun _ _ _ h => h) (Or.inr ⟨by rfl, rfl⟩) (by assumption) ?_
        try simp only [Act.put, List.setIfInBounds_toArray, List.set_cons_zero, List.set_cons_succ]
        refine anyH_take (i := 10) (v := undef) (some 79) rfl rfl (by kernel_rfl) (fun _ _ _ h => h) (Or.inr ⟨by rfl, rfl⟩) (by assumption) ?_
        try simp only [Act.put, List.setIfInBounds_toArray, List.set_cons_zero, List.set_cons_succ]
        refine anyH_take (i := 11) (v := undef) (some 80) rfl rfl (by kernel_rfl) (fun _ _ _ h => h) (Or.inr ⟨by rfl, rfl⟩) (by assumption) ?_
        try simp only [Act.put, List.setIfInBounds_toArray, List.set_cons_zero, List.set_cons_succ]
        refine anyH_take (i := 12) (v := ?_) (some 81) rfl rfl (by kernel_rfl) (fun _ _ _ h => h) (Or.inl ⟨by rfl, ?_⟩) (by assumption) ?_
        rotate_left
        · (intro w hSw; go_simp; all_goals with_reducible rfl)
        try simp only [Act.put, List.setIfInBounds_toArray, List.set_cons_zero, List.set_cons_succ]
        refine anyH_take (i := 13) (v := ?_) (some 82) rfl rfl (by kernel_rfl) (fun _ _ _ h => h) (Or.inl ⟨by rfl, ?_⟩) (by assumption) ?_
        rotate_left
        · (intro w hSw; go_simp; all_goals with_reducible rfl)
        try simp only [Act.put, List.setIfInBounds_toArray, List.set_cons_zero, List.set_cons_succ]
        refine anyH_one (i := 14) (by kernel_rfl) rfl (fun K hK => ?_)
        go_simp
        go_at_call 9
        refine (lives_any _).mono ?_
        rintro e w8 ⟨rfl, hb8⟩
        refine hK.out _ _ (hHeld.but (S := []) (.of_below hb8) (by simp)) (fun hHeld => ?_)
        clear hK K
        try simp only [Act.put, List.setIfInBounds_toArray, List.set_cons_zero, List.set_cons_succ]
        refine anyH_take (i := 15) (v := ?_) (some 84) rfl rfl (by kernel_rfl) (fun _ _ _ h => h) (Or.inl ⟨by rfl, ?_⟩) (by assumption) ?_
        rotate_left
        · (intro w hSw; go_simp; all_goals with_reducible rfl)
        try simp only [Act.put, List.setIfInBounds_toArray, List.set_cons_zero, List.set_cons_succ]
        refine anyH_take (i := 16) (v := ?_) (some 6) rfl rfl (by kernel_rfl) (fun _ _ _ h => h) (Or.inl ⟨by rfl, ?_⟩) (by assumption) ?_
        rotate_left
        · (intro w hSw; go_simp; all_goals with_reducible rfl)
        try simp only [Act.put, List.setIfInBounds_toArray, List.set_cons_zero, List.set_cons_succ]
        refine wpAnyH_done (by kernel_rfl) ?_ _
        go_wp2_with fail
        go_ret
        exact ⟨rfl, ((hB5.trans (But.refl [] w5).drew).trans (.of_below hb8)).to_below⟩

theorem one_int (a b : Int) (xa : Option Addr) (xc : Nat) (xs : List UInt8) (w : World) (ha : 0 ≤ a ∧ a ≤ 18446744073709551615) (hb : 0 ≤ b ∧ b ≤ 18446744073709551615) (hx : Byts w w.heap.size xa xc xs) :
    Calls Try.prog 6 #[.int .u64 a, .int .u64 b, .slice xa xs.length xc] w fun e w' => e = .returned (.bool true) ∧ Below w.heap.size w w' := by
  obtain ⟨m, rfl⟩ := Int.eq_ofNat_of_zero_le ha.1
  obtain ⟨n, rfl⟩ := Int.eq_ofNat_of_zero_le hb.1
  exact one_any m n xa xc xs w (by omega) (by omega) hx

end Go.Proofs.Ytdndpncbagjidaa
