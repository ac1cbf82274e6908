/- The walk of SlotsIds. -/
import Derived.Test.YtkoekdbkjjjoaaaDoorNew
namespace Go.Proofs.YtkoekdbkjjjoaaaDoor
open Go.RowKit

set_option maxHeartbeats 2000000 in
theorem ids_any (i a id : Int) (h0 : -9223372036854775808 ≤ id) (h1 : id ≤ 9223372036854775807) (w : World) (hT : Tab w) :
    Calls Tryd.prog 4 #[.int .i64 i, .int .i64 a, .int .i64 id] w fun e w' => e = .returned (.bool true) ∧ Below w.heap.size w w' := by
  have c21 := id_any i a
  have c22 := rid_any i a
  have c23 := index_any id h0 h1
  have c24 := rindex_any id h1
  have c25 := age_any id h0 h1
  have c26 := rage_any id h1
  have hbd := idI_bd i a
  have d23 := index_any (idI i a) (by omega) (by omega)
  have d25 := age_any (idI i a) (by omega) (by omega)
  have hii := index_id i a
  generalize idI i a = x at c21 c22 d23 d25 hii
  by_cases hx : x = 0
  · subst hx
    clear hii d23 d25
    go_enter Tryd.func4, Tryd.ntmps4
    go_wp2_with (first
      | (go_at_call 21; refine (c21 _).mono ?_; rintro e w' ⟨rfl, hw⟩; subst w')
      | (go_at_call 22; refine (c22 _).mono ?_; rintro e w' ⟨rfl, hw⟩; subst w')
      | (go_at_call 23; refine (c23 _).mono ?_; rintro e w' ⟨rfl, hw⟩; subst w')
      | (go_at_call 24; refine (c24 _).mono ?_; rintro e w' ⟨rfl, hw⟩; subst w')
      | (go_at_call 25; refine (c25 _).mono ?_; rintro e w' ⟨rfl, hw⟩; subst w')
      | (go_at_call 26; refine (c26 _).mono ?_; rintro e w' ⟨rfl, hw⟩; subst w')
      | (go_at_call 8; refine (lives_any _ hT).mono ?_; rintro e w' ⟨rfl, hb⟩))
    go_ret
    exact ⟨rfl, hb⟩
  · obtain ⟨e1, e2⟩ := hii hx
    rw [e1] at d23
    rw [e2] at d25
    have hx' : (x == 0) = false := by simpa using hx
    clear hii e1 e2 hbd
    go_enter Tryd.func4, Tryd.ntmps4
    go_wp2_with (first
      | (go_at_call 21; refine (c21 _).mono ?_; rintro e w' ⟨rfl, hw⟩; subst w')
      | (go_at_call 22; refine (c22 _).mono ?_; rintro e w' ⟨rfl, hw⟩; subst w')
      | (go_at_call 23; (with_reducible refine (c23 _).mono ?_); rintro e w' ⟨rfl, hw⟩; subst w')
      | (go_at_call 24; refine (c24 _).mono ?_; rintro e w' ⟨rfl, hw⟩; subst w')
      | (go_at_call 25; (with_reducible refine (c25 _).mono ?_); rintro e w' ⟨rfl, hw⟩; subst w')
      | (go_at_call 26; refine (c26 _).mono ?_; rintro e w' ⟨rfl, hw⟩; subst w')
      | (go_at_call 23; refine (d23 _).mono ?_; rintro e w' ⟨rfl, hw⟩; subst w')
      | (go_at_call 25; refine (d25 _).mono ?_; rintro e w' ⟨rfl, hw⟩; subst w')
      | (go_at_call 8; refine (lives_any _ hT).mono ?_; rintro e w' ⟨rfl, hb⟩))
    go_ret
    exact ⟨rfl, hb⟩

end Go.Proofs.YtkoekdbkjjjoaaaDoor
