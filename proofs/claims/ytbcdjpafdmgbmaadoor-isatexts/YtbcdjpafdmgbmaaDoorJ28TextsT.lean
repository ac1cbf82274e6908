/- The reference's Scan. -/
/- Two rows that grow side by side, in whatever order: instructions and the numbers of their lines. -/
import Derived.Test.YtbcdjpafdmgbmaaDoorJ26TextsT
import Derived.Test.YtbcdjpafdmgbmaaDoorJ20TextsT
import Derived.Test.YtbcdjpafdmgbmaaDoorJ27TextsT
import Derived.BigQuiet
namespace Go.Proofs.YtbcdjpafdmgbmaaDoor
open Go.RowKit Go.Shelf

/-- What Scan tells. -/
def ScanV (s : List UInt8) (lo : Nat) (e : Ending) (w' : World) : Prop := ∃ v, e = .returned (.tuple #[v, .int .i64 ((scanV s).2.1 : Nat), .int .i64 ((scanV s).2.2 : Nat)]) ∧ Ow w' lo v (scanV s).1
theorem strB_mid {s : List UInt8} {i j : Nat} (hij : i ≤ j) (hj : j ≤ s.length) (w : World) : (Instr.slice 9 (.string (strB s)) (some (.int .i64 (i : Int))) (some (.int .i64 (j : Int))) none).run Tryd.prog w = .ok (.string (strB ((s.drop i).take (j - i)))) w := by
  have hs : (strB s).size = s.length := strB_size s
  have he : (strB s).extract i j = strB ((s.drop i).take (j - i)) := by rw [ext_str, strB_data]
  have h1 : (j : Int) ≤ (s.length : Int) := by omega
  have h2 : (0 : Int) ≤ (i : Int) := by omega
  have h3 : (i : Int) ≤ (j : Int) := by omega
  go_simp
theorem mid_more {s : List UInt8} {i j : Nat} {b : UInt8} (hij : i ≤ j) (h : s[j]? = some b) : (s.drop i).take (j + 1 - i) = (s.drop i).take (j - i) ++ [b] := by
  rw [show j + 1 - i = (j - i) + 1 by omega, List.take_add_one, List.getElem?_drop, show i + (j - i) = j by omega, h]
  rfl
theorem lines_more {s cur : List UInt8} {i : Nat} {b : UInt8} (h : s[i]? = some b) (hb : b ≠ 10) : linesG cur (s.drop i) = linesG (cur ++ [b]) (s.drop (i + 1)) := by
  have hi := (List.getElem?_eq_some_iff.1 h).1
  rw [List.drop_eq_getElem_cons hi, (List.getElem?_eq_some_iff.1 h).2, linesG, if_neg hb]
theorem lines_nl {s cur : List UInt8} {i : Nat} (h : s[i]? = some 10) : linesG cur (s.drop i) = cur :: linesG [] (s.drop (i + 1)) := by
  have hi := (List.getElem?_eq_some_iff.1 h).1
  rw [List.drop_eq_getElem_cons hi, (List.getElem?_eq_some_iff.1 h).2, linesG, if_pos rfl]
theorem lines_end {s cur : List UInt8} {i : Nat} (h : i = s.length) : linesG cur (s.drop i) = [cur] := by
  rw [List.drop_eq_nil_of_le (by omega), linesG]

/-- What follows a line's end. -/
def Goes (s : List UInt8) (i n : Nat) (E : List Ent) : Prop :=
  (i ≤ s.length → ents s = E ++ entsN n (linesG ((s.drop i).take (i - i)) (s.drop i))) ∧ (i = s.length + 1 → ents s = E)
theorem line_done {s cur : List UInt8} {i n : Nat} {E : List Ent} (h : ents s = E ++ entsN n (linesG cur (s.drop i))) (hc : s[i]? = some 10 ∨ i = s.length) :
    ∃ R, ents s = E ++ (if saysB cur then [(n, wordsB cur)] else []) ++ R ∧ ∀ E', ents s = E' ++ R → Goes s (i + 1) (n + 1) E' := by
  have hstep : ∀ ls, entsN n (cur :: ls) = (if saysB cur then [(n, wordsB cur)] else []) ++ entsN (n + 1) ls := fun ls => by
    simp only [entsN]
    split <;> rfl
  rcases hc with hc | hc
  · have hi := (List.getElem?_eq_some_iff.1 hc).1
    rw [lines_nl hc, hstep, ← List.append_assoc] at h
    refine ⟨_, h, fun E' h' => ⟨fun _ => ?_, fun e => by omega⟩⟩
    rw [Nat.sub_self, List.take_zero]
    exact h'
  · rw [lines_end hc, hstep] at h
    refine ⟨[], by rw [List.append_nil]; simpa [entsN] using h, fun E' h' => ⟨fun e => by omega, fun _ => by simpa using h'⟩⟩
theorem LineV.out {R : Option Ins} {e : Ending} (h : LineV R e) : ∃ x0 x1 x2 x3 : Int, e = .returned (.tuple #[.agg #[.int .i64 x0, .int .i64 x1, .int .i64 x2, .int .i64 x3], .bool R.isSome]) ∧ ∀ y, R = some y → (x0, x1, x2, x3) = y := by
  obtain ⟨⟨x0, x1, x2, x3⟩, e, h⟩ := h
  exact ⟨x0, x1, x2, x3, e, h⟩
theorem pv_two (w : World) (p q r s : Int) : PV ((w.alloc (.cells #[.int .i64 p, .int .i64 q, .int .i64 r, .int .i64 s] 49)).alloc (.cells #[.int .i64 p, .int .i64 q, .int .i64 r, .int .i64 s] 49)) (some ⟨w.heap.size + 1, 0, none⟩) [(p, q, r, s)] := by
  have := pv_one (w.alloc (.cells #[.int .i64 p, .int .i64 q, .int .i64 r, .int .i64 s] 49)) p q r s 49
  rw [World.size_alloc] at this
  exact this
theorem ow_grown {w w' : World} {lo lo' : Nat} {v v' : Value} {ps : List Ins} {ns : List Int} (h : Ow w lo v ps) (h' : RowI w lo' v' ns) (hg : w.grownBy w' v'.ownBlock) : Ow w' lo v ps :=
  h.put (fun k hk => hg.block k (h.lt hk).2 (fun e => ow_apart h h' hk e.symm))
theorem rowi_grown {w w' : World} {lo lo' : Nat} {v v' : Value} {ps : List Ins} {ns : List Int} (h : Ow w lo v ps) (h' : RowI w lo' v' ns) (hg : w.grownBy w' v.ownBlock) : RowI w' lo' v' ns :=
  ownsRow_put h' (fun k hk => hg.block k (World.ownsRow.lt h' k hk).2 (fun e => ow_apart h h' e.symm hk))

set_option maxRecDepth 100000 in
set_option maxHeartbeats 8000000 in
theorem rscan_any (s : List UInt8) (w : World) :
    Calls Tryd.prog 26 #[.string (strB s)] w fun e w' => ScanV s w.heap.size e w' ∧ Below w.heap.size w w' := by
  have hz := strB_size s
  by_cases hlong : 4096 < s.length
  · have hv := scan_long hlong
    have hl2 : (4096 : Int) < (s.length : Int) := by omega
    unfold ScanV
    rw [hv]
    go_enter Tryd.func26, Tryd.ntmps26
    go_wp2_with fail
    go_ret3
    exact ⟨⟨_, rfl, Ow.nil _ _⟩, Below.refl _ _⟩
  · have hl2 : ¬ (4096 : Int) < (s.length : Int) := by omega
    go_enter Tryd.func26, Tryd.ntmps26
    go_wp2_with fail
    go_loopw [9, 8, 7, 5, 6, 10, 11, 12, 13, 18, 19, 20, 21, 22, 23, 24, 25, 26, 27, 28, 29, 30, 31, 32, 33, 34, 35, 36, 37, 38, 39, 40, 41, 42, 43, 44, 45, 46, 47, 48, 49, 50, 51, 52, 53, 54, 55, 56, 57, 58, 59, 60, 61, 62, 63, 64, 65, 66, 67] (fun p q r t u _ _ _ _ _ _ _ _ _ _ _ _ _ _ _ _ _ _ _ _ _ _ _ _ _ _ _ _ _ _ _ _ _ _ _ _ _ _ _ _ _ _ _ _ _ _ _ _ _ _ _ _ _ _ wr => ∃ (i from_ n : Nat) (E : List Ent) (ps : List Ins) (ns : List Int), i ≤ s.length + 1 ∧ p = .int .i64 i ∧ q = .int .i64 from_ ∧ r = .int .i64 n ∧ from_ ≤ i ∧ n ≤ i + 1 ∧ E.length ≤ i ∧ Hid (Red E ps ns) ∧ Ow wr w.heap.size t ps ∧ RowI wr w.heap.size u ns ∧ Hid (i ≤ s.length → ents s = E ++ entsN n (linesG ((s.drop from_).take (i - from_)) (s.drop i))) ∧ Hid (i = s.length + 1 → ents s = E) ∧ Below w.heap.size w wr) (fun p _ _ _ _ _ _ _ _ _ _ _ _ _ _ _ _ _ _ _ _ _ _ _ _ _ _ _ _ _ _ _ _ _ _ _ _ _ _ _ _ _ _ _ _ _ _ _ _ _ _ _ _ _ _ _ _ _ _ _ => s.length + 1 - (intOf p).toNat)
    case atStart => exact ⟨0, 0, 1, [], [], [], by omega, rfl, rfl, rfl, by omega, by omega, by simp, Hid.mk Red.nil, Ow.nil _ _, World.ownsRow_nil _ _ _ _, Hid.mk (fun _ => by simp [ents]), Hid.mk (fun h => by omega), Below.refl _ _⟩
    case round =>
      obtain ⟨i, fr, n, E, ps, ns, hi, rfl, rfl, rfl, hfi, hni, hEl, hRed, hO, hRow, hI, hJ, hb⟩ := hrel
      obtain ⟨lp, ln⟩ := hRed.out.len
      obtain ⟨m, hm⟩ : ∃ m, ps.length = m := ⟨_, rfl⟩
      have hmn : ns.length = m := by omega
      have hm1 : m ≤ i := by omega
      obtain ⟨pa, pc, ev, hpv⟩ := ow_sl hO hm
      subst ev
      obtain ⟨ra, rc, ev⟩ := row_sl hRow hmn
      subst ev
      have Hm := Hid.mk hm
      have Hmn := Hid.mk hmn
      have Hpv := Hid.mk hpv
      clear hm hmn hpv lp ln
      by_cases hle : i ≤ s.length
      · have hI2 := Hid.mk (hI.out hle)
        clear hI hJ
        have hle2 : (i : Int) ≤ (s.length : Int) := by omega
        by_cases hin : i < s.length ∧ s[i]? ≠ some 10
        · obtain ⟨hlt, hne⟩ := hin
          have hlt2 : (i : Int) < (s.length : Int) := by omega
          have hl0 : (0 : Int) ≤ (i : Int) := by omega
          obtain ⟨b, hb2⟩ : ∃ b, s[i]? = some b := ⟨_, List.getElem?_eq_getElem hlt⟩
          have hix := strB_get hb2
          have h10 : b ≠ 10 := fun e => hne (by rw [hb2, e])
          have h11 : ¬ ((b.toNat : Nat) : Int) = 10 := fun e => h10 (UInt8.toNat_inj.1 (by have : (10 : UInt8).toNat = 10 := rfl; omega))
          have hnx := Hid.mk (show ents s = E ++ entsN n (linesG ((s.drop fr).take (i + 1 - fr)) (s.drop (i + 1))) by rw [mid_more hfi hb2, ← lines_more hb2 h10]; exact hI2.out)
          clear hb2 hne h10 hI2
          go_wp2_with fail
          go_roundw
          case rel => exact ⟨i + 1, fr, n, E, ps, ns, by omega, by simp, rfl, rfl, by omega, by omega, by omega, hRed, hO, hRow, Hid.mk (fun _ => hnx.out), Hid.mk (fun h => by omega), hb⟩
          case measure =>
            simp [intOf]
            omega
        · by_cases hlt : i < s.length
          · have h10 : s[i]? = some 10 := Classical.byContradiction (fun e => hin ⟨hlt, e⟩)
            have hlt2 : (i : Int) < (s.length : Int) := by omega
            have hl0 : (0 : Int) ≤ (i : Int) := by omega
            have hix := strB_get h10
            have h11 : (((10 : UInt8).toNat : Nat) : Int) = 10 := rfl
            have hcase : s[i]? = some 10 ∨ i = s.length := .inl h10
            clear hin h10

            obtain ⟨R, hE1, hNX⟩ := line_done hI2.out hcase
            have HNX := Hid.mk hNX
            have hmid := strB_mid hfi hle
            have hcl : ((s.drop fr).take (i - fr)).length ≤ 10000 := by rw [List.length_take, List.length_drop]; omega
            have HWd := rwords_any ((s.drop fr).take (i - fr)) hcl
            clear hNX hI2 hcase
            generalize (s.drop fr).take (i - fr) = cur at *
            cases hwd : wordsB cur with
            | nil =>
              have hs : saysB cur = false := by unfold saysB; rw [hwd]; rfl
              rw [hs] at hE1
              have hG := Hid.mk (HNX.out E (by simpa using hE1))
              rw [hwd] at HWd
              clear hwd hs hE1
              go_wp2_with (go_at_call 50; (with_reducible refine (HWd _).mono ?_); rintro e w3 ⟨⟨v3, rfl, hr3⟩, hb3⟩; obtain ⟨a3, c3, ev3, _⟩ := hr3.sl (n := 0) rfl; subst ev3)
              go_roundw
              case rel => exact ⟨i + 1, i + 1, n + 1, E, ps, ns, by omega, by simp, by simp, by simp, by omega, by omega, by omega, hRed, hO.below hb3, hRow.below hb3, Hid.mk hG.out.1, Hid.mk hG.out.2, hb.trans (hb3.mono hb.size)⟩
              case measure =>
                simp [intOf]
                omega
            | cons l r =>
              have hcne : cur ≠ [] := fun e => by rw [e] at hwd; cases hwd
              obtain ⟨c0, t0, rfl⟩ : ∃ c t, cur = c :: t := by cases cur with | nil => exact absurd rfl hcne | cons c t => exact ⟨c, t, rfl⟩
              have hix0 := strB_get (M := c0 :: t0) (i := 0) rfl
              have hzl : 0 < (strB (c0 :: t0)).size := by rw [strB_size]; simp
              have hzl2 : (0 : Int) < ((strB (c0 :: t0)).size : Int) := by omega
              have hrc : r.length + 1 ≤ 10001 := by
                have := wordsG_count (c0 :: t0) []
                change (wordsB (c0 :: t0)).length ≤ _ at this
                rw [hwd] at this
                simp at this hcl ⊢
                omega
              have hrs : ∀ x ∈ r, x.length ≤ 10000 := fun x hx => by
                have := wordsG_short (c0 :: t0) [] x (show x ∈ wordsB (c0 :: t0) by rw [hwd]; exact List.mem_cons_of_mem _ hx)
                simp at this hcl
                omega
              rw [hwd] at HWd
              by_cases h35 : c0 = 35
              · have hs : saysB (c0 :: t0) = false := by unfold saysB; rw [h35]; simp
                rw [hs] at hE1
                have hG := Hid.mk (HNX.out E (by simpa using hE1))
                have h36 : ((c0.toNat : Nat) : Int) = 35 := by rw [h35]; rfl
                clear hwd hs hE1 h35 hcl hcne hrs
                generalize strB (c0 :: t0) = CC at *
                go_wp2_with (go_at_call 50; (with_reducible refine (HWd _).mono ?_); rintro e w3 ⟨⟨v3, rfl, hr3⟩, hb3⟩; obtain ⟨a3, c3, ev3, _⟩ := hr3.sl (n := r.length + 1) rfl; subst ev3)
                go_roundw
                case rel => exact ⟨i + 1, i + 1, n + 1, E, ps, ns, by omega, by simp, by simp, by simp, by omega, by omega, by omega, hRed, hO.below hb3, hRow.below hb3, Hid.mk hG.out.1, Hid.mk hG.out.2, hb.trans (hb3.mono hb.size)⟩
                case measure =>
                  simp [intOf]
                  omega
              · have hs : saysB (c0 :: t0) = true := by unfold saysB; rw [hwd]; simpa using h35
                rw [hs, hwd] at hE1
                simp only [if_true] at hE1
                have h36 : ¬ ((c0.toNat : Nat) : Int) = 35 := fun e => h35 (UInt8.toNat_inj.1 (by have : (35 : UInt8).toNat = 35 := rfl; omega))
                clear hwd hs h35 hcl hcne
                generalize strB (c0 :: t0) = CC at *
                cases hiw : insW (l :: r) with
                | none =>
                  have hsv := scan_line (by omega) hRed.out (R := R) (show ents s = E ++ (n, l :: r) :: R by rw [hE1]; simp) hiw
                  have HL := fun (W : World) a c (h1 : WV W a (l :: r)) (h2 : r.length + 1 ≤ c) => rline_any h1 h2 (by omega) hrs
                  rw [hiw] at HL
                  have HSV := Hid.mk hsv
                  clear hE1 HNX hrs hsv
                  go_wp2_with (first
                    | (go_at_call 50; (with_reducible refine (HWd _).mono ?_); rintro e w3 ⟨⟨v3, rfl, hr3⟩, hb3⟩; obtain ⟨a3, c3, ev3, hc3, hwv3⟩ := hr3.sl (n := r.length + 1) rfl; subst ev3; have HL3 := HL _ _ _ hwv3 hc3)
                    | (go_at_call 51; (with_reducible refine HL3.mono ?_); rintro e w4 ⟨hv4, hb4⟩; obtain ⟨x0, x1, x2, x3, rfl, _⟩ := hv4.out; simp only [Option.isSome_none]))
                  go_ret3
                  refine ⟨?_, ?_⟩
                  · unfold ScanV
                    rw [HSV.out]
                    exact ⟨_, rfl, Ow.nil _ _⟩
                  · exact ((hb.trans (hb3.mono hb.size)).trans (hb4.mono (Nat.le_trans hb.size hb3.size))).alloc (Nat.le_trans (Nat.le_trans hb.size hb3.size) hb4.size) _
                | some y =>
                  have hRed2 := Hid.mk (hRed.out.snoc (n := n) hiw)
                  have hG := Hid.mk (HNX.out (E ++ [(n, l :: r)]) (by rw [hE1]))
                  have HL := fun (W : World) a c (h1 : WV W a (l :: r)) (h2 : r.length + 1 ≤ c) => rline_any h1 h2 (by omega) hrs
                  rw [hiw] at HL
                  clear hE1 HNX hrs
                  go_wp2_with (first
                    | (go_at_call 50; (with_reducible refine (HWd _).mono ?_); rintro e w3 ⟨⟨v3, rfl, hr3⟩, hb3⟩; obtain ⟨a3, c3, ev3, hc3, hwv3⟩ := hr3.sl (n := r.length + 1) rfl; subst ev3; have HL3 := HL _ _ _ hwv3 hc3)
                    | (go_at_call 51; (with_reducible refine HL3.mono ?_); rintro e w4 ⟨hv4, hb4⟩; obtain ⟨x0, x1, x2, x3, rfl, hxy⟩ := hv4.out; obtain rfl := hxy y rfl; simp only [Option.isSome_some]
                       have b4 := (hb.trans (hb3.mono hb.size)).trans (hb4.mono (Nat.le_trans hb.size hb3.size))
                       have hO4 := (hO.below hb3).below hb4
                       have hRow4 := (hRow.below hb3).below hb4
                       have bB := (b4.alloc b4.size (.cells #[.int .i64 x0, .int .i64 x1, .int .i64 x2, .int .i64 x3] 49)).alloc (Nat.le_trans b4.size (by simp)) (.cells #[.int .i64 x0, .int .i64 x1, .int .i64 x2, .int .i64 x3] 49)
                       have kB : Below w4.heap.size w4 ((w4.alloc (.cells #[.int .i64 x0, .int .i64 x1, .int .i64 x2, .int .i64 x3] 49)).alloc (.cells #[.int .i64 x0, .int .i64 x1, .int .i64 x2, .int .i64 x3] 49)) := ((Below.refl _ w4).alloc (Nat.le_refl _) _).alloc (by simp) _
                       have hOB := hO4.below kB
                       have hRowB := hRow4.below kB
                       have hpv1 := pv_two w4 x0 x1 x2 x3)
                    | (at_builtin; refine wpList_appI rfl _ _ rfl w.heap.size _ ps rfl hOB _ 1 1 [(x0, x1, x2, x3)] rfl rfl hpv1 (by rw [Hm.out]; omega) bB.size ?_; intro v5 w5 hO5 hg5 _; obtain ⟨a5, c5, ev5, _⟩ := ow_sl (n := m + 1) hO5 (by simp [Hm.out]); subst ev5
                       replace hg5 : World.grownBy _ w5 (Value.slice pa m pc).ownBlock := hg5
                       have b5 := below_grown bB hg5 hOB bB.size
                       have hRow5 := rowi_grown hOB hRowB hg5
                       have b6 := b5.alloc b5.size (.cells #[.int .i64 (n : Int)] 3)
                       have hO6 := hO5.below ((Below.refl _ w5).alloc (Nat.le_refl _) (.cells #[.int .i64 (n : Int)] 3))
                       have hRow6 := hRow5.below ((Below.refl _ w5).alloc (Nat.le_refl _) (.cells #[.int .i64 (n : Int)] 3))
                       have hown6 : (w5.alloc (.cells #[.int .i64 (n : Int)] 3)).ownsRow w.heap.size 3 1 (.slice ra m rc) m (ns.map (Value.int .i64)) := by have h6 := hRow6; unfold RowI at h6; rw [Hmn.out] at h6; exact h6)
                    | (at_builtin; refine wpList_app rfl _ _ rfl w.heap.size _ m _ rfl hown6 _ 1 1 [(n : Int)] rfl rfl (reads_one _ _) (by omega) b6.size ?_; intro v7 w7 ho7 hg7; obtain ⟨a7, c7, ev7⟩ := own_shape ho7; subst ev7
                       replace hg7 : World.grownBy _ w7 (Value.slice ra m rc).ownBlock := hg7
                       have b7 := below_grown b6 hg7 hown6 b6.size
                       have hO7 := ow_grown hO6 hRow6 hg7))
                  go_roundw
                  case rel =>
                    refine ⟨i + 1, i + 1, n + 1, E ++ [(n, l :: r)], ps ++ [(x0, x1, x2, x3)], ns ++ [(n : Int)], by omega, by simp, by simp, by simp, by omega, by omega, by simp; omega, hRed2, hO7, ?_, Hid.mk hG.out.1, Hid.mk hG.out.2, b7⟩
                    unfold RowI
                    rw [List.length_append, Hmn.out]
                    exact ho7
                  case measure =>
                    simp [intOf]
                    omega
          · have hlt2 : ¬ (i : Int) < (s.length : Int) := by omega
            have hcase : s[i]? = some 10 ∨ i = s.length := .inr (by omega)
            clear hin

            obtain ⟨R, hE1, hNX⟩ := line_done hI2.out hcase
            have HNX := Hid.mk hNX
            have hmid := strB_mid hfi hle
            have hcl : ((s.drop fr).take (i - fr)).length ≤ 10000 := by rw [List.length_take, List.length_drop]; omega
            have HWd := rwords_any ((s.drop fr).take (i - fr)) hcl
            clear hNX hI2 hcase
            generalize (s.drop fr).take (i - fr) = cur at *
            cases hwd : wordsB cur with
            | nil =>
              have hs : saysB cur = false := by unfold saysB; rw [hwd]; rfl
              rw [hs] at hE1
              have hG := Hid.mk (HNX.out E (by simpa using hE1))
              rw [hwd] at HWd
              clear hwd hs hE1
              go_wp2_with (go_at_call 50; (with_reducible refine (HWd _).mono ?_); rintro e w3 ⟨⟨v3, rfl, hr3⟩, hb3⟩; obtain ⟨a3, c3, ev3, _⟩ := hr3.sl (n := 0) rfl; subst ev3)
              go_roundw
              case rel => exact ⟨i + 1, i + 1, n + 1, E, ps, ns, by omega, by simp, by simp, by simp, by omega, by omega, by omega, hRed, hO.below hb3, hRow.below hb3, Hid.mk hG.out.1, Hid.mk hG.out.2, hb.trans (hb3.mono hb.size)⟩
              case measure =>
                simp [intOf]
                omega
            | cons l r =>
              have hcne : cur ≠ [] := fun e => by rw [e] at hwd; cases hwd
              obtain ⟨c0, t0, rfl⟩ : ∃ c t, cur = c :: t := by cases cur with | nil => exact absurd rfl hcne | cons c t => exact ⟨c, t, rfl⟩
              have hix0 := strB_get (M := c0 :: t0) (i := 0) rfl
              have hzl : 0 < (strB (c0 :: t0)).size := by rw [strB_size]; simp
              have hzl2 : (0 : Int) < ((strB (c0 :: t0)).size : Int) := by omega
              have hrc : r.length + 1 ≤ 10001 := by
                have := wordsG_count (c0 :: t0) []
                change (wordsB (c0 :: t0)).length ≤ _ at this
                rw [hwd] at this
                simp at this hcl ⊢
                omega
              have hrs : ∀ x ∈ r, x.length ≤ 10000 := fun x hx => by
                have := wordsG_short (c0 :: t0) [] x (show x ∈ wordsB (c0 :: t0) by rw [hwd]; exact List.mem_cons_of_mem _ hx)
                simp at this hcl
                omega
              rw [hwd] at HWd
              by_cases h35 : c0 = 35
              · have hs : saysB (c0 :: t0) = false := by unfold saysB; rw [h35]; simp
                rw [hs] at hE1
                have hG := Hid.mk (HNX.out E (by simpa using hE1))
                have h36 : ((c0.toNat : Nat) : Int) = 35 := by rw [h35]; rfl
                clear hwd hs hE1 h35 hcl hcne hrs
                generalize strB (c0 :: t0) = CC at *
                go_wp2_with (go_at_call 50; (with_reducible refine (HWd _).mono ?_); rintro e w3 ⟨⟨v3, rfl, hr3⟩, hb3⟩; obtain ⟨a3, c3, ev3, _⟩ := hr3.sl (n := r.length + 1) rfl; subst ev3)
                go_roundw
                case rel => exact ⟨i + 1, i + 1, n + 1, E, ps, ns, by omega, by simp, by simp, by simp, by omega, by omega, by omega, hRed, hO.below hb3, hRow.below hb3, Hid.mk hG.out.1, Hid.mk hG.out.2, hb.trans (hb3.mono hb.size)⟩
                case measure =>
                  simp [intOf]
                  omega
              · have hs : saysB (c0 :: t0) = true := by unfold saysB; rw [hwd]; simpa using h35
                rw [hs, hwd] at hE1
                simp only [if_true] at hE1
                have h36 : ¬ ((c0.toNat : Nat) : Int) = 35 := fun e => h35 (UInt8.toNat_inj.1 (by have : (35 : UInt8).toNat = 35 := rfl; omega))
                clear hwd hs h35 hcl hcne
                generalize strB (c0 :: t0) = CC at *
                cases hiw : insW (l :: r) with
                | none =>
                  have hsv := scan_line (by omega) hRed.out (R := R) (show ents s = E ++ (n, l :: r) :: R by rw [hE1]; simp) hiw
                  have HL := fun (W : World) a c (h1 : WV W a (l :: r)) (h2 : r.length + 1 ≤ c) => rline_any h1 h2 (by omega) hrs
                  rw [hiw] at HL
                  have HSV := Hid.mk hsv
                  clear hE1 HNX hrs hsv
                  go_wp2_with (first
                    | (go_at_call 50; (with_reducible refine (HWd _).mono ?_); rintro e w3 ⟨⟨v3, rfl, hr3⟩, hb3⟩; obtain ⟨a3, c3, ev3, hc3, hwv3⟩ := hr3.sl (n := r.length + 1) rfl; subst ev3; have HL3 := HL _ _ _ hwv3 hc3)
                    | (go_at_call 51; (with_reducible refine HL3.mono ?_); rintro e w4 ⟨hv4, hb4⟩; obtain ⟨x0, x1, x2, x3, rfl, _⟩ := hv4.out; simp only [Option.isSome_none]))
                  go_ret3
                  refine ⟨?_, ?_⟩
                  · unfold ScanV
                    rw [HSV.out]
                    exact ⟨_, rfl, Ow.nil _ _⟩
                  · exact ((hb.trans (hb3.mono hb.size)).trans (hb4.mono (Nat.le_trans hb.size hb3.size))).alloc (Nat.le_trans (Nat.le_trans hb.size hb3.size) hb4.size) _
                | some y =>
                  have hRed2 := Hid.mk (hRed.out.snoc (n := n) hiw)
                  have hG := Hid.mk (HNX.out (E ++ [(n, l :: r)]) (by rw [hE1]))
                  have HL := fun (W : World) a c (h1 : WV W a (l :: r)) (h2 : r.length + 1 ≤ c) => rline_any h1 h2 (by omega) hrs
                  rw [hiw] at HL
                  clear hE1 HNX hrs
                  go_wp2_with (first
                    | (go_at_call 50; (with_reducible refine (HWd _).mono ?_); rintro e w3 ⟨⟨v3, rfl, hr3⟩, hb3⟩; obtain ⟨a3, c3, ev3, hc3, hwv3⟩ := hr3.sl (n := r.length + 1) rfl; subst ev3; have HL3 := HL _ _ _ hwv3 hc3)
                    | (go_at_call 51; (with_reducible refine HL3.mono ?_); rintro e w4 ⟨hv4, hb4⟩; obtain ⟨x0, x1, x2, x3, rfl, hxy⟩ := hv4.out; obtain rfl := hxy y rfl; simp only [Option.isSome_some]
                       have b4 := (hb.trans (hb3.mono hb.size)).trans (hb4.mono (Nat.le_trans hb.size hb3.size))
                       have hO4 := (hO.below hb3).below hb4
                       have hRow4 := (hRow.below hb3).below hb4
                       have bB := (b4.alloc b4.size (.cells #[.int .i64 x0, .int .i64 x1, .int .i64 x2, .int .i64 x3] 49)).alloc (Nat.le_trans b4.size (by simp)) (.cells #[.int .i64 x0, .int .i64 x1, .int .i64 x2, .int .i64 x3] 49)
                       have kB : Below w4.heap.size w4 ((w4.alloc (.cells #[.int .i64 x0, .int .i64 x1, .int .i64 x2, .int .i64 x3] 49)).alloc (.cells #[.int .i64 x0, .int .i64 x1, .int .i64 x2, .int .i64 x3] 49)) := ((Below.refl _ w4).alloc (Nat.le_refl _) _).alloc (by simp) _
                       have hOB := hO4.below kB
                       have hRowB := hRow4.below kB
                       have hpv1 := pv_two w4 x0 x1 x2 x3)
                    | (at_builtin; refine wpList_appI rfl _ _ rfl w.heap.size _ ps rfl hOB _ 1 1 [(x0, x1, x2, x3)] rfl rfl hpv1 (by rw [Hm.out]; omega) bB.size ?_; intro v5 w5 hO5 hg5 _; obtain ⟨a5, c5, ev5, _⟩ := ow_sl (n := m + 1) hO5 (by simp [Hm.out]); subst ev5
                       replace hg5 : World.grownBy _ w5 (Value.slice pa m pc).ownBlock := hg5
                       have b5 := below_grown bB hg5 hOB bB.size
                       have hRow5 := rowi_grown hOB hRowB hg5
                       have b6 := b5.alloc b5.size (.cells #[.int .i64 (n : Int)] 3)
                       have hO6 := hO5.below ((Below.refl _ w5).alloc (Nat.le_refl _) (.cells #[.int .i64 (n : Int)] 3))
                       have hRow6 := hRow5.below ((Below.refl _ w5).alloc (Nat.le_refl _) (.cells #[.int .i64 (n : Int)] 3))
                       have hown6 : (w5.alloc (.cells #[.int .i64 (n : Int)] 3)).ownsRow w.heap.size 3 1 (.slice ra m rc) m (ns.map (Value.int .i64)) := by have h6 := hRow6; unfold RowI at h6; rw [Hmn.out] at h6; exact h6)
                    | (at_builtin; refine wpList_app rfl _ _ rfl w.heap.size _ m _ rfl hown6 _ 1 1 [(n : Int)] rfl rfl (reads_one _ _) (by omega) b6.size ?_; intro v7 w7 ho7 hg7; obtain ⟨a7, c7, ev7⟩ := own_shape ho7; subst ev7
                       replace hg7 : World.grownBy _ w7 (Value.slice ra m rc).ownBlock := hg7
                       have b7 := below_grown b6 hg7 hown6 b6.size
                       have hO7 := ow_grown hO6 hRow6 hg7))
                  go_roundw
                  case rel =>
                    refine ⟨i + 1, i + 1, n + 1, E ++ [(n, l :: r)], ps ++ [(x0, x1, x2, x3)], ns ++ [(n : Int)], by omega, by simp, by simp, by simp, by omega, by omega, by simp; omega, hRed2, hO7, ?_, Hid.mk hG.out.1, Hid.mk hG.out.2, b7⟩
                    unfold RowI
                    rw [List.length_append, Hmn.out]
                    exact ho7
                  case measure =>
                    simp [intOf]
                    omega
      · have hle2 : ¬ (i : Int) ≤ (s.length : Int) := by omega
        have hE := hJ.out (by omega)
        have hRed2 : Red (ents s) ps ns := by rw [hE]; exact hRed.out
        have HRed := Hid.mk hRed2
        have hm2 : m ≤ 4097 := by omega
        clear hI hJ hE hRed2 hRed
        have HG := fun (W : World) (hW : Below wr.heap.size wr W) (j : Nat) => rgood_any pc (j : Int) (Hpv.out.below hW)
        rw [Hm.out] at HG
        go_wp2_with fail
        go_loopw [70, 14, 71, 72, 73, 74, 75, 76, 77, 78, 79, 80, 81] (fun p _ _ _ _ _ _ _ _ _ _ _ _ W => ∃ j : Nat, j ≤ m ∧ p = .int .i64 j ∧ Hid (∀ k, k < j → goodAt ps (k : Int) = true) ∧ Below wr.heap.size wr W) (fun p _ _ _ _ _ _ _ _ _ _ _ _ _ => m - (intOf p).toNat)
        case atStart => exact ⟨0, by omega, rfl, Hid.mk (fun k hk => by omega), Below.refl _ _⟩
        case round =>
          obtain ⟨j, hj, rfl, hall, hbW⟩ := hrel
          have hb2 := hb.trans (hbW.mono hb.size)
          have hO2 := hO.below hbW
          have hRow2 := hRow.below hbW
          by_cases hjm : j < m
          · have hjm2 : (j : Int) < (m : Int) := by omega
            have hj0 : (0 : Int) ≤ (j : Int) := by omega
            have HC := HG wr hbW j
            cases hg : goodAt ps (j : Int) with
            | true =>
              rw [hg] at HC
              have hall2 := Hid.mk (show ∀ k, k < j + 1 → goodAt ps (k : Int) = true from fun k hk => by
                by_cases e : k = j
                · rw [e]; exact hg
                · exact hall.out k (by omega))
              clear hg hall
              go_wp2_with (go_at_call 16; (with_reducible refine HC.mono ?_); rintro e w3 ⟨rfl, hb3⟩)
              go_roundw
              case rel => exact ⟨j + 1, by omega, by simp, hall2, hbW.trans (hb3.mono hbW.size)⟩
              case measure =>
                simp [intOf]
                omega
            | false =>
              rw [hg] at HC
              obtain ⟨nn, hnn, hsv⟩ := scan_bad (by omega) HRed.out (i := j) (by rw [Hm.out]; exact hjm) hall.out hg
              obtain ⟨g, ea, hcell⟩ := row_get hRow2 j _ hnn
              have HSV := Hid.mk hsv
              cases ea
              clear hg hall hnn hsv
              go_wp2_with (go_at_call 16; (with_reducible refine HC.mono ?_); rintro e w3 ⟨rfl, hb3⟩; have hcell3 := cell_on hb3 hcell)
              go_quiet (fail)
              go_wp2_with fail
              go_ret3
              refine ⟨?_, below_drewN (hb2.trans (hb3.mono hb2.size)) _⟩
              unfold ScanV
              rw [HSV.out]
              exact ⟨_, rfl, Ow.nil _ _⟩
          · obtain rfl : j = m := by omega
            have hsv := scan_end (by omega) HRed.out (fun k hk => hall.out k (by rw [Hm.out] at hk; exact hk))
            rw [Hm.out] at hsv
            clear hall
            by_cases h64 : (64 : Int) < (j : Int)
            · rw [if_pos (by omega)] at hsv
              have HSV := Hid.mk hsv
              clear hsv
              go_wp2_with fail
              go_ret3
              refine ⟨?_, hb2⟩
              unfold ScanV
              rw [HSV.out]
              exact ⟨_, rfl, Ow.nil _ _⟩
            · rw [if_neg (by omega)] at hsv
              have HSV := Hid.mk hsv
              clear hsv
              go_wp2_with fail
              go_ret3
              refine ⟨?_, hb2⟩
              unfold ScanV
              rw [HSV.out]
              exact ⟨_, rfl, hO2⟩

end Go.Proofs.YtbcdjpafdmgbmaaDoor
namespace Go.Proofs.YtbcdjpafdmgbmaaDoor
open Go.RowKit Go.Shelf

/-- append to a row of ints of the call's own; where the row then lies. -/
theorem run_ownN {w : World} {ty : TypeId} {B : Nat} {v : Value} {xs : List Int} {g c : Nat} {n : Int} (hown : RowI w B v xs) (hr : w.cell? ⟨g, 0, none⟩ = some (.int .i64 n)) (hk : xs.length + 1 ≤ 100000) (hb : B ≤ w.heap.size) :
    ∃ v' w', (Builtin.append_ #[79, 79] ty #[v, .slice (some ⟨g, 0, none⟩) 1 c]).run Tryd.prog w = .ok v' w' ∧ RowI w' B v' (xs ++ [n]) ∧ w.grownBy w' v.ownBlock ∧ (v'.ownBlock = v.ownBlock ∨ v'.ownBlock = some w.heap.size) := by
  obtain ⟨v', w', hrun, r1, r2, r3⟩ := run_own (t := 79) (ty := ty) (c := c) (m := 1) (b := some ⟨g, 0, none⟩) (ys := [.int .i64 n]) Tryd.underlying79 info3 rfl (by decide) hown (fun j u hj => by
    have : j = 0 := by
      have := (List.getElem?_eq_some_iff.1 hj).1
      simpa using this
    subst this
    simp at hj
    subst hj
    exact ⟨g, 0, rfl, hr⟩) (by simp) (by simp [Value.oneCell']) (by unfold maxLen; omega) (by omega) hb
  refine ⟨v', w', hrun, ?_, r2, r3⟩
  unfold RowI
  rw [List.length_append, List.map_append]
  exact r1

/-- Blocks of instructions are kept. -/
def KeepI (W W' : World) : Prop := ∀ (k : Nat) (cur : Array Value) (fz : Nat × Nat), W.heap[k]? = some (.cells cur 49 fz) → W'.heap[k]? = W.heap[k]?
def KeepN (W W' : World) : Prop := ∀ (k : Nat) (cur : Array Value) (fz : Nat × Nat), W.heap[k]? = some (.cells cur 3 fz) → W'.heap[k]? = W.heap[k]?
theorem Ow.keep {W W' : World} {lo : Nat} {v : Value} {ps : List Ins} (h : Ow W lo v ps) (k : KeepI W W') : Ow W' lo v ps := by
  refine h.put (fun b hb => ?_)
  rcases h.2 with ⟨rfl, _⟩ | ⟨g, cap, cur, rfl, _, hg, _⟩
  · simp [Value.ownBlock] at hb
  · simp only [Value.ownBlock, Option.some.injEq] at hb
    subst hb
    exact k _ _ _ hg
theorem RowI.keep {W W' : World} {lo : Nat} {v : Value} {ns : List Int} (h : RowI W lo v ns) (k : KeepN W W') : RowI W' lo v ns := by
  refine ownsRow_put h (fun b hb => ?_)
  rcases h.2 with ⟨rfl, _⟩ | ⟨g, cap, cur, rfl, _, hg, _⟩
  · simp [Value.ownBlock] at hb
  · simp only [Value.ownBlock, Option.some.injEq] at hb
    subst hb
    exact k _ _ _ hg
/-- The instructions' side: i tells how far (0: at the start, 1: the new one lies there, 2: appended, 3: stored). -/
structure PA (A : World) (lo B5 B9 : Nat) (pv : Value) (ps : List Ins) (x : Ins) (i : Nat) (u v : Value) (W : World) : Prop where
  b5 : Cel W B5 #[if i = 3 then v else pv] 24
  b9 : Cel W B9 (insC x) 49
  rp : i ≤ 1 → Ow W lo pv ps
  rq : 2 ≤ i → Ow W lo v (ps ++ [x]) ∧ (v.ownBlock = pv.ownBlock ∨ ∃ g, A.heap.size ≤ g ∧ v.ownBlock = some g)
  nw : i = 1 → ∃ g, u = .slice (some ⟨g, 0, none⟩) 1 1 ∧ Ow W lo u [x]
structure PN (A : World) (lo B6 : Nat) (nv : Value) (ns : List Int) (n : Int) (i : Nat) (u v : Value) (W : World) : Prop where
  b6 : Cel W B6 #[if i = 3 then v else nv] 79
  rp : i ≤ 1 → RowI W lo nv ns
  rq : 2 ≤ i → RowI W lo v (ns ++ [n]) ∧ (v.ownBlock = nv.ownBlock ∨ ∃ g, A.heap.size ≤ g ∧ v.ownBlock = some g)
  nw : i = 1 → ∃ g, u = .slice (some ⟨g, 0, none⟩) 1 1 ∧ RowI W lo u [n]
theorem PA.keep {A : World} {lo B5 B9 : Nat} {pv : Value} {ps : List Ins} {x : Ins} {i : Nat} {u v : Value} {W W' : World} (h : PA A lo B5 B9 pv ps x i u v W) (k : KeepI W W') (k5 : W'.heap[B5]? = W.heap[B5]?) : PA A lo B5 B9 pv ps x i u v W' :=
  ⟨h.b5.put k5, h.b9.put (k _ _ _ h.b9), fun e => (h.rp e).keep k, fun e => ⟨(h.rq e).1.keep k, (h.rq e).2⟩, fun e => by obtain ⟨g, h1, h2⟩ := h.nw e; exact ⟨g, h1, h2.keep k⟩⟩
theorem PN.keep {A : World} {lo B6 : Nat} {nv : Value} {ns : List Int} {n : Int} {i : Nat} {u v : Value} {W W' : World} (h : PN A lo B6 nv ns n i u v W) (k : KeepN W W') (k6 : W'.heap[B6]? = W.heap[B6]?) : PN A lo B6 nv ns n i u v W' :=
  ⟨h.b6.put k6, fun e => (h.rp e).keep k, fun e => ⟨(h.rq e).1.keep k, (h.rq e).2⟩, fun e => by obtain ⟨g, h1, h2⟩ := h.nw e; exact ⟨g, h1, h2.keep k⟩⟩

/-- Both. -/
structure Sg (A : World) (lo B5 B6 B9 : Nat) (pv nv : Value) (ps : List Ins) (ns : List Int) (x : Ins) (n : Int) (i j : Nat) (u v u' v' : Value) (W : World) : Prop where
  but : But ([B5, B6] ++ pv.ownBlock.toList ++ nv.ownBlock.toList) A W
  low : lo ≤ A.heap.size
  lp : ps.length + 1 ≤ 100000
  ln : ns.length + 1 ≤ 100000
  p : PA A lo B5 B9 pv ps x i u v W
  q : PN A lo B6 nv ns n j u' v' W
section
variable {A : World} {lo B5 B6 B9 : Nat} {pv nv : Value} {ps : List Ins} {ns : List Int} {x : Ins} {n : Int} {i j : Nat} {u v u' v' : Value} {W : World}
theorem keep_alloc (o : Obj) : KeepI W (W.alloc o) ∧ KeepN W (W.alloc o) :=
  ⟨fun _ _ _ h => Below.heap_alloc _ _ _ (Array.getElem?_eq_some_iff.1 h).1, fun _ _ _ h => Below.heap_alloc _ _ _ (Array.getElem?_eq_some_iff.1 h).1⟩
theorem Sg.build_p (h : Sg A lo B5 B6 B9 pv nv ps ns x n 0 j u v u' v' W) : Sg A lo B5 B6 B9 pv nv ps ns x n 1 j (.slice (some ⟨W.heap.size, 0, none⟩) 1 1) v u' v' (W.alloc (.cells (insC x) 49)) := by
  obtain ⟨k1, k2⟩ := keep_alloc (W := W) (.cells (insC x) 49)
  have hp := h.p.keep k1 (Below.heap_alloc _ _ _ h.p.b5.lt)
  refine ⟨h.but.alloc _, h.low, h.lp, h.ln, ⟨hp.b5, hp.b9, fun _ => hp.rp (by omega), fun e => by omega, fun _ => ⟨_, rfl, ?_⟩⟩, h.q.keep k2 (Below.heap_alloc _ _ _ h.q.b6.lt)⟩
  exact ⟨rfl, .inr ⟨_, 1, insC x, rfl, Nat.le_trans h.low h.but.size, World.alloc_heap_new W _, Nat.le_refl _, by unfold maxLen; omega, rfl, rfl⟩⟩
theorem Sg.build_n (h : Sg A lo B5 B6 B9 pv nv ps ns x n i 0 u v u' v' W) : Sg A lo B5 B6 B9 pv nv ps ns x n i 1 u v (.slice (some ⟨W.heap.size, 0, none⟩) 1 1) v' (W.alloc (.cells #[.int .i64 n] 3)) := by
  obtain ⟨k1, k2⟩ := keep_alloc (W := W) (.cells #[.int .i64 n] 3)
  have hn := h.q.keep k2 (Below.heap_alloc _ _ _ h.q.b6.lt)
  refine ⟨h.but.alloc _, h.low, h.lp, h.ln, h.p.keep k1 (Below.heap_alloc _ _ _ h.p.b5.lt), ⟨hn.b6, fun _ => hn.rp (by omega), fun e => by omega, fun _ => ⟨_, rfl, ?_⟩⟩⟩
  exact ⟨rfl, .inr ⟨_, 1, #[.int .i64 n], rfl, Nat.le_trans h.low h.but.size, World.alloc_heap_new W _, Nat.le_refl _, by unfold maxLen; omega, rfl, rfl⟩⟩
theorem Sg.app_p (h : Sg A lo B5 B6 B9 pv nv ps ns x n 1 j u v u' v' W) (hB9 : A.heap.size ≤ B9) (hpA : ∀ k, pv.ownBlock = some k → k < A.heap.size) (ty : TypeId) :
    ∃ v2 W', (Builtin.append_ #[24, 24] ty #[pv, u]).run Tryd.prog W = .ok v2 W' ∧ Sg A lo B5 B6 B9 pv nv ps ns x n 2 j u v2 u' v' W' := by
  have hp := h.p.rp (by omega)
  obtain ⟨g, rfl, hu⟩ := h.p.nw rfl
  obtain ⟨a, c, e, _, hpv, _⟩ := hu.sl
  cases e
  obtain ⟨v2, W', hrun, r1, r2, r3⟩ := run_ownI (ty := ty) (c := 1) hp (m := 1) (news := [x]) rfl hpv h.lp (Nat.le_trans h.low h.but.size)
  have hty : ∀ k, pv.ownBlock = some k → ∃ cur fz, W.heap[k]? = some (.cells cur 49 fz) := fun k hk => by
    rcases hp.2 with ⟨rfl, _⟩ | ⟨g, cap, cur, rfl, _, hg, _⟩
    · simp [Value.ownBlock] at hk
    · simp only [Value.ownBlock, Option.some.injEq] at hk
      subst hk
      exact ⟨_, _, hg⟩
  have keepO : ∀ (k : Nat) (o : Obj), W.heap[k]? = some o → (∀ cur fz, o ≠ .cells cur 49 fz) → W'.heap[k]? = W.heap[k]? := fun k o ho hne => r2.block k (Array.getElem?_eq_some_iff.1 ho).1 (fun e => by
    obtain ⟨cur, fz, hk⟩ := hty k e.symm
    rw [ho] at hk
    cases hk
    exact hne _ _ rfl)
  have k5 := keepO B5 _ h.p.b5 (fun _ _ e => by cases e)
  refine ⟨v2, W', hrun, ⟨h.but.trans ((but_of r2).mono (fun y hy => by simp at hy; simp [hy])), h.low, h.lp, h.ln, ⟨h.p.b5.put k5, h.p.b9.put (r2.block B9 h.p.b9.lt (fun e => by have := hpA _ e.symm; omega)), fun e => by omega, fun _ => ⟨r1, r3.imp id (fun e => ⟨_, h.but.size, e⟩)⟩, fun e => by omega⟩, h.q.keep (fun k cur fz hk => keepO k _ hk (fun _ _ e => by cases e)) (keepO B6 _ h.q.b6 (fun _ _ e => by cases e))⟩⟩
theorem Sg.app_n (h : Sg A lo B5 B6 B9 pv nv ps ns x n i 1 u v u' v' W) (ty : TypeId) :
    ∃ v2 W', (Builtin.append_ #[79, 79] ty #[nv, u']).run Tryd.prog W = .ok v2 W' ∧ Sg A lo B5 B6 B9 pv nv ps ns x n i 2 u v u' v2 W' := by
  have hp := h.q.rp (by omega)
  obtain ⟨g, rfl, hu⟩ := h.q.nw rfl
  have hcell : W.cell? ⟨g, 0, none⟩ = some (.int .i64 n) := by
    rcases hu.2 with ⟨e, _⟩ | ⟨g', cap, cur, e, _, hg, _, _, hsz, ht⟩
    · cases e
    · cases e
      simp only [World.cell?, hg]
      have hs : cur.size = 1 := by simpa using hsz
      have h0 : cur.toList[0]? = some (.int .i64 n) := by
        have := congrArg (fun l => l[0]?) ht
        simp only [List.getElem?_take] at this
        simpa using this
      simpa using h0
  obtain ⟨v2, W', hrun, r1, r2, r3⟩ := run_ownN (ty := ty) (c := 1) hp hcell h.ln (Nat.le_trans h.low h.but.size)
  have hty : ∀ k, nv.ownBlock = some k → ∃ cur fz, W.heap[k]? = some (.cells cur 3 fz) := fun k hk => by
    rcases hp.2 with ⟨rfl, _⟩ | ⟨g, cap, cur, rfl, _, hg, _⟩
    · simp [Value.ownBlock] at hk
    · simp only [Value.ownBlock, Option.some.injEq] at hk
      subst hk
      exact ⟨_, _, hg⟩
  have keepO : ∀ (k : Nat) (o : Obj), W.heap[k]? = some o → (∀ cur fz, o ≠ .cells cur 3 fz) → W'.heap[k]? = W.heap[k]? := fun k o ho hne => r2.block k (Array.getElem?_eq_some_iff.1 ho).1 (fun e => by
    obtain ⟨cur, fz, hk⟩ := hty k e.symm
    rw [ho] at hk
    cases hk
    exact hne _ _ rfl)
  have k6 := keepO B6 _ h.q.b6 (fun _ _ e => by cases e)
  refine ⟨v2, W', hrun, ⟨h.but.trans ((but_of r2).mono (fun y hy => by simp at hy; simp [hy])), h.low, h.lp, h.ln, h.p.keep (fun k cur fz hk => keepO k _ hk (fun _ _ e => by cases e)) (keepO B5 _ h.p.b5 (fun _ _ e => by cases e)), ⟨h.q.b6.put k6, fun e => by omega, fun _ => ⟨r1, r3.imp id (fun e => ⟨_, h.but.size, e⟩)⟩, fun e => by omega⟩⟩⟩
theorem keep_set {B : Nat} {cur : Array Value} {t : TypeId} (h : Cel W B cur t) (y : Value) : (t ≠ 49 → KeepI W (W.setCell ⟨B, 0, none⟩ y)) ∧ (t ≠ 3 → KeepN W (W.setCell ⟨B, 0, none⟩ y)) := by
  constructor
  · intro ht k c fz hk
    refine Below.heap_setCell _ _ _ _ (fun e => ?_)
    simp at e
    subst e
    rw [show W.heap[k]? = _ from h] at hk
    cases hk
    exact ht rfl
  · intro ht k c fz hk
    refine Below.heap_setCell _ _ _ _ (fun e => ?_)
    simp at e
    subst e
    rw [show W.heap[k]? = _ from h] at hk
    cases hk
    exact ht rfl
theorem Sg.store_p (h : Sg A lo B5 B6 B9 pv nv ps ns x n 2 j u v u' v' W) (hne : B5 ≠ B6) : Sg A lo B5 B6 B9 pv nv ps ns x n 3 j u v u' v' (W.setCell ⟨B5, 0, none⟩ v) := by
  obtain ⟨k1, k2⟩ := keep_set h.p.b5 v
  refine ⟨h.but.set (p := ⟨B5, 0, none⟩) (by simp) _, h.low, h.lp, h.ln, ⟨h.p.b5.set (j := 0) v, h.p.b9.put (k1 (by decide) _ _ _ h.p.b9), fun e => by omega, fun _ => ⟨(h.p.rq (by omega)).1.keep (k1 (by decide)), (h.p.rq (by omega)).2⟩, fun e => by omega⟩, h.q.keep (k2 (by decide)) (Below.heap_setCell _ _ _ _ (by simpa using Ne.symm hne))⟩
theorem Sg.store_n (h : Sg A lo B5 B6 B9 pv nv ps ns x n i 2 u v u' v' W) (hne : B5 ≠ B6) : Sg A lo B5 B6 B9 pv nv ps ns x n i 3 u v u' v' (W.setCell ⟨B6, 0, none⟩ v') := by
  obtain ⟨k1, k2⟩ := keep_set h.q.b6 v'
  refine ⟨h.but.set (p := ⟨B6, 0, none⟩) (by simp) _, h.low, h.lp, h.ln, h.p.keep (k1 (by decide)) (Below.heap_setCell _ _ _ _ (by simpa using hne)), ⟨h.q.b6.set (j := 0) v', fun e => by omega, fun _ => ⟨(h.q.rq (by omega)).1.keep (k2 (by decide)), (h.q.rq (by omega)).2⟩, fun e => by omega⟩⟩
end

end Go.Proofs.YtbcdjpafdmgbmaaDoor
