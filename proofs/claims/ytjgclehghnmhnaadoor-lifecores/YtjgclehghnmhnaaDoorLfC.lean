/- cached; end; Get. -/
import Derived.Test.YtjgclehghnmhnaaDoorLfL
namespace Go.Proofs.YtjgclehghnmhnaaDoor
open Go Go.RowKit

/-- The best that has come. -/
def Best (xs : List Ac) (sp : Int) (left : Int → Bool) : Option Ac → Prop
  | none => ∀ a ∈ xs, left a.id = false → ¬ (a.sp = sp ∧ a.st = 5)
  | some m => m ∈ xs ∧ m.sp = sp ∧ m.st = 5 ∧ ∀ a ∈ xs, left a.id = false → a.sp = sp → a.st = 5 → m.id ≤ a.id
theorem cac_least {sp : Int} : ∀ {xs : List Ac}, Srt xs → ∀ {a : Ac}, cacO xs sp = some a → ∀ b ∈ xs, b.sp = sp → b.st = 5 → a.id ≤ b.id
  | x :: r, hs, a, h, b, hb, h1, h2 => by
    obtain ⟨g1, g2⟩ := List.pairwise_cons.1 hs
    unfold cacO at h
    rw [List.find?_cons] at h
    cases hx : (x.sp == sp && x.st == 5)
    · rw [hx] at h
      rcases List.mem_cons.1 hb with rfl | hb
      · simp [h1, h2] at hx
      · exact cac_least g2 h b hb h1 h2
    · rw [hx] at h
      cases h
      rcases List.mem_cons.1 hb with rfl | hb
      · exact Int.le_refl _
      · have := g1 b hb
        omega
theorem Best.end_ {xs : List Ac} {sp : Int} {left : Int → Bool} {o : Option Ac} (hs : Srt xs) (h : Best xs sp left o) (hl : ∀ a ∈ xs, left a.id = false) : cacO xs sp = o := by
  cases o with
  | none =>
    unfold cacO
    rw [List.find?_eq_none]
    intro a ha
    have := h a ha (hl a ha)
    simpa using this
  | some m =>
    obtain ⟨h1, h2, h3, h4⟩ := h
    cases hc : cacO xs sp with
    | none =>
      unfold cacO at hc
      rw [List.find?_eq_none] at hc
      have := hc m h1
      simp [h2, h3] at this
    | some a =>
      obtain ⟨k1, k2, k3⟩ := cac_some hc
      have e1 := cac_least hs hc m h1 h2 h3
      have e2 := h4 a k1 (hl a k1) k2 k3
      have e3 := fnd_mem hs k1
      rw [show a.id = m.id by omega, fnd_mem hs h1] at e3
      exact e3.symm
theorem left_or {xs : List Ac} (hs : Srt xs) {left : Int → Bool} {a : Ac} (ha : a ∈ xs) {x : Ac} (hx : x ∈ xs) (h : (left x.id && !(x.id == a.id)) = false) : x = a ∨ left x.id = false := by
  by_cases e : x.id = a.id
  · have e1 := fnd_mem hs hx
    rw [e, fnd_mem hs ha] at e1
    exact .inl (Option.some.inj e1).symm
  · exact .inr (by simpa [e] using h)
theorem Best.skip {xs : List Ac} {sp : Int} {left : Int → Bool} {o : Option Ac} (hs : Srt xs) (h : Best xs sp left o) {a : Ac} (ha : a ∈ xs) (hn : ¬ (a.sp = sp ∧ a.st = 5) ∨ ∃ m, o = some m ∧ m.id ≤ a.id) : Best xs sp (fun j => left j && !(j == a.id)) o := by
  cases o with
  | none =>
    intro x hx hl
    rcases left_or hs ha hx hl with rfl | hl
    · exact hn.elim id (fun ⟨m, e, _⟩ => by cases e)
    · exact h x hx hl
  | some m =>
    obtain ⟨h1, h2, h3, h4⟩ := h
    refine ⟨h1, h2, h3, fun x hx hl e1 e2 => ?_⟩
    rcases left_or hs ha hx hl with rfl | hl
    · rcases hn with hn | ⟨m', e, hle⟩
      · exact absurd ⟨e1, e2⟩ hn
      · cases e; exact hle
    · exact h4 x hx hl e1 e2
theorem Best.take {xs : List Ac} {sp : Int} {left : Int → Bool} {o : Option Ac} (hs : Srt xs) (h : Best xs sp left o) {a : Ac} (ha : a ∈ xs) (h1 : a.sp = sp) (h2 : a.st = 5) (hn : ∀ m, o = some m → a.id ≤ m.id) : Best xs sp (fun j => left j && !(j == a.id)) (some a) := by
  refine ⟨ha, h1, h2, fun x hx hl e1 e2 => ?_⟩
  rcases left_or hs ha hx hl with rfl | hl
  · exact Int.le_refl _
  · cases o with
    | none => exact absurd ⟨e1, e2⟩ (h x hx hl)
    | some m =>
      have := h.2.2.2 x hx hl e1 e2
      have := hn m rfl
      omega

section
variable {w : World} {B S G M N : Nat} {pb : Int → Nat} {σ : Sta}
set_option maxHeartbeats 4000000 in
set_option maxRecDepth 100000 in
theorem cached_any (h : TM w B S G M N pb σ) (hV : Env w) (sp : Int) :
    Calls Tryd.prog 43 #[.pointer (some ⟨B, 0, none⟩), .int .i64 sp] w fun e w' => e = .returned (ptr ((cacO σ.xs sp).map (fun a => pb a.id))) ∧ Below w.heap.size w w' := by
  have c1 := h.c1
  have hm := h.m
  go_enter Tryd.func43, Tryd.ntmps43
  go_wp2_with (first
    | (at_range; refine wpList_rangeP _ rfl _ rfl M _ _ rfl hm ?_; intro w0 hrg0 hb0 hs0)
    | go_in)
  go_frame
  have hB0 : Below w.heap.size w w0 := hb0.to_below
  clear hb0 hs0
  go_loopw [5, 6, 7] (fun v _ _ wr => ∃ (left : Int → Bool) (cnt : Nat) (o : Option Ac), v = ptr (o.map (fun a => pb a.id)) ∧ RG wr M w.heap.size σ.xs.length (fB pb σ.xs) left cnt ∧ Below w.heap.size w wr ∧ Best σ.xs sp left o) (fun _ _ _ wr => wr.rangeLeft M w.heap.size)
  case atStart => exact ⟨_, _, none, rfl, hrg0, hB0, fun a ha hl => by
    have hl' : (fB pb σ.xs a.id).isSome = false := hl
    rw [fB_some h.ok ha] at hl'
    cases hl'⟩
  case round =>
    clear hrg0 hB0
    obtain ⟨left, cnt, o, rfl, hrg, hB, hbest⟩ := hrel
    have HB := Hid.mk hbest
    clear hbest
    go_wp2_with (first
      | (at_next; refine wpList_nextP _ rfl _ rfl M w.heap.size _ _ _ _ rfl hrg ?_ ?_)
      | go_in)
    · intro hdone
      have HE : Hid (cacO σ.xs sp = o) := HB.out.end_ h.ok.srt fun a ha => hdone a.id _ (fB_some h.ok ha)
      clear hdone
      go_wp2_with fail
      go_ret
      exact ⟨by rw [HE.out]; rfl, hB⟩
    · intro i b w1 cnt1 hf hl hrg1 hlt hb1 hs1 hen
      obtain ⟨a, ha, rfl, rfl⟩ := fB_inv hf
      have hB1 : Below w.heap.size w w1 := hB.trans (hb1.below hB.size (by simp))
      have c2 : w1.cell? ⟨pb a.id, 2, none⟩ = some (.int .i64 a.sp) := ((h.a a ha).below hB1).cell (j := 2) rfl
      have hY := may_any (s := 64) ((h.a a ha).below hB1) (h.ok.lc a ha) (.inr (.inr (.inr (.inr (.inr (.inr rfl)))))) (hV.on hB1).f
      rw [show folB 64 a.st = (a.st == 5) from rfl] at hY
      clear hf hb1 hs1 hl
      cases hp : (a.sp == sp)
      · have HS : Hid (Best σ.xs sp (fun j => left j && !(j == a.id)) o) := HB.out.skip h.ok.srt ha (.inl fun e => by simp [e.1] at hp)
        go_wp2_with fail
        go_roundw
        case rel => exact ⟨_, _, o, rfl, hrg1, hB1, HS.out⟩
        case measure =>
          rw [hrg1.left_eq, hrg.left_eq]
          exact hlt
      · cases hq : (a.st == 5)
        · have HS : Hid (Best σ.xs sp (fun j => left j && !(j == a.id)) o) := HB.out.skip h.ok.srt ha (.inl fun e => by simp [e.2] at hq)
          rw [hq] at hY
          go_wp2_with (go_at_call 66; refine hY.mono ?_; rintro e w' ⟨rfl, hw⟩; subst w')
          go_roundw
          case rel => exact ⟨_, _, o, rfl, hrg1, hB1, HS.out⟩
          case measure =>
            rw [hrg1.left_eq, hrg.left_eq]
            exact hlt
        · rw [hq] at hY
          have e1 : a.sp = sp := by simpa using hp
          have e2 : a.st = 5 := by simpa using hq
          cases o with
          | none =>
            have HS : Hid (Best σ.xs sp (fun j => left j && !(j == a.id)) (some a)) := HB.out.take h.ok.srt ha e1 e2 (fun m e => by cases e)
            clear e1 e2
            simp only [Option.map_none, ptr]
            go_wp2_with (go_at_call 66; refine hY.mono ?_; rintro e w' ⟨rfl, hw⟩; subst w')
            go_roundw
            case rel => exact ⟨_, _, some a, rfl, hrg1, hB1, HS.out⟩
            case measure =>
              rw [hrg1.left_eq, hrg.left_eq]
              exact hlt
          | some m =>
            have hm' := HB.out.1
            have c0 : w1.cell? ⟨pb m.id, 0, none⟩ = some (.int .i64 m.id) := ((h.a m hm').below hB1).cell (j := 0) rfl
            simp only [Option.map_some, ptr]
            by_cases hlt2 : a.id < m.id
            · have HS : Hid (Best σ.xs sp (fun j => left j && !(j == a.id)) (some a)) := HB.out.take h.ok.srt ha e1 e2 (fun m e => by cases e; omega)
              clear e1 e2
              go_wp2_with (go_at_call 66; refine hY.mono ?_; rintro e w' ⟨rfl, hw⟩; subst w')
              go_roundw
              case rel => exact ⟨_, _, some a, rfl, hrg1, hB1, HS.out⟩
              case measure =>
                rw [hrg1.left_eq, hrg.left_eq]
                exact hlt
            · have HS : Hid (Best σ.xs sp (fun j => left j && !(j == a.id)) (some m)) := HB.out.skip h.ok.srt ha (.inr ⟨m, rfl, by omega⟩)
              clear e1 e2
              go_wp2_with (go_at_call 66; refine hY.mono ?_; rintro e w' ⟨rfl, hw⟩; subst w')
              go_roundw
              case rel => exact ⟨_, _, some m, rfl, hrg1, hB1, HS.out⟩
              case measure =>
                rw [hrg1.left_eq, hrg.left_eq]
                exact hlt

set_option maxHeartbeats 2000000 in
theorem end_any (h : TM w B S G M N pb σ) {a : Ac} (ha : a ∈ σ.xs) :
    Calls Tryd.prog 54 #[.pointer (some ⟨B, 0, none⟩), .int .i64 a.id] w fun e w' => e = .returned (.tuple #[]) ∧ TM w' B S G M N pb (endS σ a.id) ∧ Step (bT B S G M pb σ.xs) w (bT B S G M pb (endS σ a.id).xs) w' := by
  have c0 := h.c0
  obtain ⟨a1, a2, a3, a4, a5, a6, hap, hnd⟩ := h.apart
  have hr := h.ok.idr ha
  have hFr := free_any h.s a.id (by omega) (by omega)
  have hlen := len_remA h.ok.srt ha
  obtain ⟨n, hn⟩ : ∃ n, σ.xs.length = n + 1 := ⟨σ.xs.length - 1, by omega⟩
  have hn' : Hid (n = σ.xs.length - 1) := by show n = _; omega
  have hf := fB_some (pb := pb) h.ok ha
  have hK : ∀ w1, But [S] w w1 → w1.cell? ⟨B, 1, none⟩ = some (.map (some M)) ∧ PM w1 M (n + 1) (fB pb σ.xs) := fun w1 hb => ⟨hb.cell' h.c1 (by simpa using a1), hn ▸ h.m.but hb (by simpa using Ne.symm a5)⟩
  have HG : Hid (∀ w1 w2, SlQ w1 S G N σ.ag (freeT σ.ag σ.tk a.id) → But [S] w w1 → PM w2 M n (fun j => if j = a.id then none else fB pb σ.xs j) → But [M] w1 w2 → TM w2 B S G M N pb (endS σ a.id) ∧ Step (bT B S G M pb σ.xs) w (bT B S G M pb (endS σ a.id).xs) w2) :=
    fun w1 w2 k1 k2 k3 k4 => h.gone ha k1 k2 (hn'.out ▸ k3) k4
  clear hlen hn hn' hr hap hnd
  go_enter Tryd.func54, Tryd.ntmps54
  go_wp2_with (first
    | (go_at_call 68; refine hFr.mono ?_; rintro e w1 ⟨rfl, hs1, hb1⟩; obtain ⟨x1, x2⟩ := hK w1 hb1)
    | (at_delete; refine wpList_dropP _ rfl _ _ rfl M n _ rfl x2 a.id _ rfl hf ?_; intro w2 hm2 hb2)
    | go_in)
  go_end0
  exact ⟨rfl, HG.out _ _ hs1 hb1 hm2 hb2⟩
end
end Go.Proofs.YtjgclehghnmhnaaDoor
