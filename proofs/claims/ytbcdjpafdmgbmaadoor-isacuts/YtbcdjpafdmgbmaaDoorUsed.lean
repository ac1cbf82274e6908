/- The iterator of an instruction's numbers that are used. -/
import Derived.Test.YtbcdjpafdmgbmaaDoorNumb
namespace Go.Proofs.YtbcdjpafdmgbmaaDoor
open Go.RowKit Go.Shelf
attribute [local go_sem] Oper.semAt_some

def encU (B : Nat) (k : Nat) : Array Value := #[.pointer (some ⟨B, k + 1, none⟩)]
/-- How many of the first i are used. -/
def cntU (op : Int) (i : Nat) : Nat := (((numQ op).take i).filter (fun k => sc op k != 45)).length
theorem cntU_zero (op : Int) : cntU op 0 = 0 := by simp [cntU]
theorem cntU_all (op : Int) : cntU op (numQ op).length = (usQ op).length := by simp [cntU, usQ]
theorem take_snoc {α : Type} {l : List α} {i : Nat} {x : α} (h : l[i]? = some x) : l.take (i + 1) = l.take i ++ [x] := by rw [List.take_add_one, h]; rfl
theorem cntU_yes {op : Int} {i k : Nat} (h : (numQ op)[i]? = some k) (hk : sc op k ≠ 45) : cntU op (i + 1) = cntU op i + 1 := by
  unfold cntU
  rw [take_snoc h, List.filter_append]
  simp [hk]
theorem cntU_no {op : Int} {i k : Nat} (h : (numQ op)[i]? = some k) (hk : sc op k = 45) : cntU op (i + 1) = cntU op i := by
  unfold cntU
  rw [take_snoc h, List.filter_append]
  simp [hk]
theorem usQ_at {op : Int} {i k : Nat} (h : (numQ op)[i]? = some k) (hk : sc op k ≠ 45) : (usQ op)[cntU op i]? = some k := by
  have e : usQ op = ((numQ op).take (i + 1)).filter (fun k => sc op k != 45) ++ ((numQ op).drop (i + 1)).filter (fun k => sc op k != 45) := by
    rw [← List.filter_append, List.take_append_drop]
    rfl
  rw [e, take_snoc h, List.filter_append, List.append_assoc, List.getElem?_append_right (by unfold cntU; exact Nat.le_refl _)]
  unfold cntU
  simp [hk]

theorem OwnFrom.mono {β : Type} {b b' : Nat} {I : β → World → Prop} (h : OwnFrom b I) (hb : b ≤ b') : OwnFrom b' I :=
  fun s W W' row hs hg hr => h s W W' row hs hg (fun r e => ⟨Nat.le_trans hb (hr r e).1, (hr r e).2⟩)

theorem used_any (p : Option Addr) (w : World) :
    Calls Tryd.prog 43 #[.pointer p] w fun e w' => e = .returned (.func (.func 72) #[] #[.pointer (some ⟨w.heap.size, 0, none⟩)]) ∧ w' = w.alloc (.cells #[.pointer p] 58) := by
  go_enter Tryd.func43, Tryd.ntmps43
  go_wp2_with fail
  go_ret
  exact ⟨rfl, rfl⟩

set_option maxRecDepth 100000 in
set_option maxHeartbeats 2000000 in
theorem used_seq {own : World → List Nat} (hst : Stab own) (X B : Nat) (op : Int) (w : World) (hT : Tab w) (hX : w.cell? ⟨X, 0, none⟩ = some (.pointer (some ⟨B, 0, none⟩))) (hB : w.cell? ⟨B, 0, none⟩ = some (.int .i64 op)) :
    SeqR Tryd.prog own 72 #[.pointer (some ⟨X, 0, none⟩)] (encU B) (usQ op) w := by
  intro l J Jx W hW hl aJ aJx hin hY h0
  have cX := cell_on hW hX
  have cB := cell_on hW hB
  have hT1 := hT.on hW
  have hin0 := hin 0 W h0
  clear hX hB hT hW
  refine callsIn_of_wp_marks Tryd.func72 rfl trivial ?_ rfl
  simp only [Tryd.ntmps72, List.size_toArray, List.length_cons, List.length_nil, Nat.reduceAdd, Nat.reduceSub, Array.replicate_succ, Array.replicate_zero, List.push_toArray, List.append_toArray, List.nil_append, List.cons_append]
  have b1 : But [] W (W.alloc (.cells #[.func (.yield l) #[] #[]] 109)) := (But.refl [] W).alloc _
  have cX1 := b1.cell cX
  gi_wp2_with (refine ⟨trivial, ?_⟩; gi_at_call 31; refine (callsIn_wide.2 (numbers_any _ _)).mono ?_; rintro e w' ⟨rfl, rfl⟩)
  have b2 : But [] W ((W.alloc (.cells #[.func (.yield l) #[] #[]] 109)).alloc (.cells #[.pointer (some ⟨B, 0, none⟩)] 58)) := b1.alloc _
  have e1 : ((W.alloc (.cells #[.func (.yield l) #[] #[]] 109)).alloc (.cells #[.pointer (some ⟨B, 0, none⟩)] 58)).heap[W.heap.size]? = some (.cells #[.func (.yield l) #[] #[]] 109 (0, 0)) := (Below.heap_alloc _ _ _ (by simp)).trans (World.alloc_heap_new W _)
  have e2 : ((W.alloc (.cells #[.func (.yield l) #[] #[]] 109)).alloc (.cells #[.pointer (some ⟨B, 0, none⟩)] 58)).cell? ⟨W.heap.size + 1, 0, none⟩ = some (.pointer (some ⟨B, 0, none⟩)) := by simp [go_sem]
  have hsz : ((W.alloc (.cells #[.func (.yield l) #[] #[]] 109)).alloc (.cells #[.pointer (some ⟨B, 0, none⟩)] 58)).heap.size = W.heap.size + 2 := by simp
  generalize ((W.alloc (.cells #[.func (.yield l) #[] #[]] 109)).alloc (.cells #[.pointer (some ⟨B, 0, none⟩)] 58)) = W2 at b2 e1 e2 hsz ⊢
  have hs : Safe own W2 W.heap.size #[.func (.yield l) #[] #[]] 109 (0, 0) := Safe.new hst hin0 b2 (Nat.le_refl _) e1
  have hJ2 := OwnFrom.but aJ h0 b2
  refine wp_range hst (gf := 57) (lb := #[.pointer (some ⟨W.heap.size + 1, 0, none⟩)]) rfl (enters_of Tryd.func57 (by kernel_rfl) rfl)
    (numbers_seq hst (W.heap.size + 1) B op W2 (hT1.but b2 (by simp)) e2 (b2.cell cB)) (Below.refl _ _) (fun _ => rfl)
    (fun i A => J (cntU op i) A ∧ Safe own A W.heap.size #[.func (.yield l) #[] #[]] 109 (0, 0))
    (fun c A => c = .ret ∧ Jx A)
    ?hI ?hIx (fun i A h => hin _ A h.1) ⟨by rw [cntU_zero]; exact hJ2, hs⟩ ?a1 ?assign ?body ?done ?stop
  case hI =>
    intro i A A' row h hg hr
    exact ⟨(OwnFrom.mono aJ (by omega)) _ A A' row h.1 hg hr, Safe.own hst (hin _ A h.1) h.2 hg (fun r e => (hr r e).2)⟩
  case hIx =>
    intro c u A A' row h hg hr
    exact ⟨h.1, (OwnFrom.mono aJx (by omega)) u A A' row h.2 hg hr⟩
  case assign =>
    intro l x W K hK
    gi_wp2
    exact hK
  case body =>
    intro l2 i k A hi hJA
    obtain ⟨hJA, hsA⟩ := hJA
    have cy : A.cell? ⟨W.heap.size, 0, none⟩ = some (.func (.yield l) #[] #[]) := hsA.cell rfl
    have hkl : k < 3 := numQ_lt (List.mem_of_getElem? hi)
    by_cases hk : sc op k = 45
    · have hc := cntU_no hi hk
      unfold encN
      rw [hk]
      gi_wp2_with fail
      iterate 4 (first | (refine ⟨(fun _ h => (by cases h)), ?_⟩; gi_wp2_with fail) | skip)
      exact ⟨⟨KeepsFrom.refl _ _, fun _ _ h _ _ => h, fun _ _ h => h⟩, by rw [hc]; exact hJA, hsA⟩
    · have hc := cntU_yes hi hk
      obtain ⟨fn, tmps, assign, body, hy, hR⟩ := YieldAt.deep (m' := 8) (hY _ k A (usQ_at hi hk) hJA)
      unfold encU at hy
      have hne : (((sc op k : Nat) : Int) != 45) = true := by simp; omega
      have hR2 : RoundIn (Fence.wide.inRound l2) 8 Tryd.prog l fn tmps assign body A _ := hR
      unfold encN
      gi_wp2_with fail
      refine hR2.mono ?_
      rintro e W3 (⟨rfl, hJ3, hk3⟩ | ⟨rfl, hJx3, hk3⟩)
      · gi_wp2_with fail
        exact ⟨hk3.mono (by omega), by rw [hc]; exact hJ3, hsA.kp hk3⟩
      · gi_wp2_with fail
        exact ⟨KeepsFrom.mono hk3 (by omega), rfl, hJx3⟩
  case done =>
    rintro D A hD ⟨hJA, hsA⟩ hK
    rw [cntU_all] at hJA
    gi_wp2_with fail
    refine ⟨by simp, .inl ⟨_, _, rfl, run_takeDeferred hK, ?_⟩⟩
    exact ⟨_, results_none rfl _ _ _, ⟨_, rfl⟩, .inl (OwnFrom.putObj aJ _ hJA (by omega) hK rfl)⟩
  case stop =>
    rintro D c A hD ⟨rfl, hJx⟩ hK
    gi_wp2_with fail
    refine ⟨by simp, .inl ⟨_, _, rfl, run_takeDeferred hK, ?_⟩⟩
    exact ⟨_, results_none rfl _ _ _, ⟨_, rfl⟩, .inr (OwnFrom.putObj (s := ()) aJx _ hJx (by omega) hK rfl)⟩

end Go.Proofs.YtbcdjpafdmgbmaaDoor
