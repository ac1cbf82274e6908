/- LifeCores, walked. -/
/- From what the rows list of variables to what the walks ask. -/
import Derived.Test.YtjgclehghnmhnaaDoorJ13LCores
import Derived.Test.YtjgclehghnmhnaaDoorLfT
import Derived.Test.YtjgclehghnmhnaaDoorRows
import Derived.Lib.LaidTab
import Derived.OpenShut
import Derived.MakeChecks
import Derived.Stop.LaidErr
namespace Go.Proofs.YtjgclehghnmhnaaDoor
open Go Go.RowKit

def uA (u : List Bool) : Array Value := (u.map Value.bool).toArray
theorem uA_zero : uA (List.replicate 64 false) = #[.bool false, .bool false, .bool false, .bool false, .bool false, .bool false, .bool false, .bool false, .bool false, .bool false, .bool false, .bool false, .bool false, .bool false, .bool false, .bool false, .bool false, .bool false, .bool false, .bool false, .bool false, .bool false, .bool false, .bool false, .bool false, .bool false, .bool false, .bool false, .bool false, .bool false, .bool false, .bool false, .bool false, .bool false, .bool false, .bool false, .bool false, .bool false, .bool false, .bool false, .bool false, .bool false, .bool false, .bool false, .bool false, .bool false, .bool false, .bool false, .bool false, .bool false, .bool false, .bool false, .bool false, .bool false, .bool false, .bool false, .bool false, .bool false, .bool false, .bool false, .bool false, .bool false, .bool false, .bool false] := rfl
theorem uA_set (u : List Bool) (k : Nat) : (uA u).setIfInBounds k (.bool true) = uA (u.set k true) := by
  unfold uA
  rw [List.map_set]
  simp
theorem uA_get {u : List Bool} {k : Nat} {b : Bool} (h : u[k]? = some b) : (uA u)[k]? = some (.bool b) := by
  unfold uA
  simp [h]
/-- Which cores those ahead of number i have. -/
def Usd (xs : List Ac) (i : Nat) (u : List Bool) : Prop := u.length = 64 ∧ ∀ k : Nat, u[k]? = some true → ∃ q, q < i ∧ (ac xs q).co = (k : Int)
theorem usd_zero (xs : List Ac) : Usd xs 0 (List.replicate 64 false) := by
  refine ⟨by simp, fun k h => ?_⟩
  have := List.mem_of_getElem? h
  simp at this
theorem Usd.skip {xs : List Ac} {i : Nat} {u : List Bool} (h : Usd xs i u) : Usd xs (i + 1) u :=
  ⟨h.1, fun k hk => (h.2 k hk).imp fun q ⟨a, b⟩ => ⟨by omega, b⟩⟩
theorem Usd.put {xs : List Ac} {i k : Nat} {u : List Bool} (h : Usd xs i u) (e : (ac xs i).co = (k : Int)) : Usd xs (i + 1) (u.set k true) := by
  refine ⟨by simp [h.1], fun q hq => ?_⟩
  by_cases hk : q = k
  · exact ⟨i, by omega, by rw [hk]; exact e⟩
  · rw [List.getElem?_set_ne (by omega)] at hq
    obtain ⟨p, a, b⟩ := h.2 q hq
    exact ⟨p, by omega, b⟩
theorem Usd.free {N : Nat} {σ : Sta} (ok : Okk N σ) {i k : Nat} {u : List Bool} (h : Usd σ.xs i u) (hi : i < σ.xs.length) (e : (ac σ.xs i).co = (k : Int)) (hk : k ≤ 63) : u[k]? = some false := by
  have hl : k < u.length := by rw [h.1]; omega
  cases hb : u[k]? with
  | none => rw [List.getElem?_eq_getElem hl] at hb; cases hb
  | some b =>
    cases b with
    | false => rfl
    | true =>
      obtain ⟨q, hq, eq⟩ := h.2 k hb
      have hid := ok.cu _ (ac_mem (j := q) (by omega)) _ (ac_mem hi) (by rw [eq, e]) (by omega)
      have hlt : (ac σ.xs q).id < (ac σ.xs i).id := by
        have hs := List.pairwise_iff_getElem.1 ok.srt q i (by omega) hi hq
        have e1 := ac_of (List.getElem?_eq_getElem (by omega : q < σ.xs.length))
        have e2 := ac_of (List.getElem?_eq_getElem hi)
        rw [e1, e2]
        exact hs
      omega
set_option maxHeartbeats 8000000 in
set_option maxRecDepth 100000 in
theorem cores_any (w : World) (hV : Env w) {a0 : Option Addr} {xs : List Sp} (c0 : Nat) (hx : SV w a0 xs) :
    Calls Tryd.prog 4 #[.slice a0 xs.length c0] w fun e w' => e = .returned (.bool true) ∧ Below w.heap.size w w' := by
  have HL : ∀ W, Below w.heap.size w W → Calls Tryd.prog 8 #[] W fun e w' => e = .returned (.bool true) ∧ Below W.heap.size W w' := fun W h => lives_any W (hV.on h)
  obtain ⟨n, hN⟩ : ∃ n, Hid (xs.length = n) := ⟨_, rfl⟩
  rw [hN.out]
  by_cases h80 : 80 < n
  · have h80' : (80 : Int) < (n : Int) := by omega
    clear h80
    go_enter Tryd.func4, Tryd.ntmps4
    go_wp2_with (first | (go_at_call 9; (refine (tnew_some 9 (by decide) (by decide) _).mono ?_); rintro e w1 ⟨B, T0, rfl, q1, s1⟩) | (go_at_call 10; (refine (rtnew_some 9 (by decide) (by decide) _).mono ?_); rintro e w2 ⟨M, R0, rfl, q2, s2⟩; have hP0 := Pr.new q1 s1 q2 s2) | (go_at_call 8; (with_reducible refine (HL _ hP0.s.below).mono ?_); rintro e w3 ⟨rfl, b3⟩))
    go_ret
    exact ⟨rfl, hP0.s.below.trans (b3.mono hP0.s.below.size)⟩
  · have h80' : ¬ (80 : Int) < (n : Int) := by omega
    have hn80 : n ≤ 80 := by omega
    clear h80
    go_enter Tryd.func4, Tryd.ntmps4
    go_upto_region 5 with (first | (go_at_call 9; (refine (tnew_some 9 (by decide) (by decide) _).mono ?_); rintro e w1 ⟨B, T0, rfl, q1, s1⟩) | (go_at_call 10; (refine (rtnew_some 9 (by decide) (by decide) _).mono ?_); rintro e w2 ⟨M, R0, rfl, q2, s2⟩; have hP0 := Pr.new q1 s1 q2 s2))
    clear q1 q2 s1 s2
    go_loopw [26, 6, 7, 9] (fun v _ _ _ wr => ∃ (j : Nat) (T R : List Nat) (σ : Sta), j ≤ n ∧ v = .int .i64 j ∧ Pr w wr B T M R 9 σ) (fun v _ _ _ _ => 80 - (intOf v).toNat)
    case atStart => exact ⟨0, T0, R0, _, Nat.zero_le _, rfl, hP0⟩
    case round =>
      obtain ⟨j, T, R, σ, hj, rfl, hp⟩ := hrel
      by_cases hlt : j < n
      · have hlt' : (j : Int) < (n : Int) := by omega
        obtain ⟨b, o, rfl, hat⟩ := hx.below hp.s.below j (by rw [hN.out]; exact hlt)
        have hsr := hat.1
        have hrg := Hid.mk hat.2
        clear hat
        generalize sp xs j = s at *
        have hz0 := Cel.new wr (spA zS) 32
        have hth := hz0.there15
        have hcx : Cel ((wr.alloc (.cells (spA zS) 32)).setCells wr.heap.size 0 (s15 s)) wr.heap.size (spA s) 32 := hz0.st _
        have bA : Below wr.heap.size wr ((wr.alloc (.cells (spA zS) 32)).setCells wr.heap.size 0 (s15 s)) := ((Below.refl _ wr).alloc (Nat.le_refl _) (.cells (spA zS) 32)).trans ((But.setCells _ 0 _).below (by simp) (by simp))
        have p1 := hp.below bA
        have hXo : wr.heap.size ∉ T ++ R := fun e => by have := hp.lt _ e; omega
        rw [zS_A] at *
        go_upto_region 6 with fail
        refine wp_region_lit ?_
        iterate 3 go_step
        refine wpList_load_mid rfl 32 (.tmp 28) rfl b (o + j * 15) rfl (s15 s) _ hsr Tryd.underlying32 rfl size15 ?_
        iterate 3 go_step
        refine wpList_store_mid rfl 32 (.tmp 6) (.tmp 29) rfl wr.heap.size 0 (s15 s).toArray rfl rfl hth size15 (s15_one _) ?_
        rw [show (s15 s).toArray.toList = s15 s from rfl]
        generalize (World.setCells _ wr.heap.size 0 (s15 s)) = w1 at *
        generalize wr.heap.size = X at *
        have hXT : X ∉ T := fun e => hXo (List.mem_append.2 (.inl e))
        have hXR : X ∉ R := fun e => hXo (List.mem_append.2 (.inr e))
        have hrX : w1.rangeAt X 0 (s15 s) := hcx.range15
        generalize (Value.agg (s15 s).toArray) = gs0 at *
        clear hth hsr hcx hXo
        have hA := act_any p1 hV s hrg.out
        clear hp bA hP0
        go_upto_region 7 with fail
        refine wp_region_lit ?_
        iterate 6 go_step
        refine wpList_load_mid rfl 32 (.tmp 6) rfl X 0 rfl (s15 s) _ hrX Tryd.underlying32 rfl size15 ?_
        go_upto_region 8 with (go_at_call 11; (with_reducible refine hA.mono ?_); rintro e w2 ⟨rfl, T2, R2, p2, st2⟩)
        clear hA p1 hrX hXT hXR st2
        generalize actS σ s = τ at *
        generalize (Value.agg (s15 s).toArray) = gs1 at *
        have hU0 : Cel (w2.alloc (.cells #[.bool false, .bool false, .bool false, .bool false, .bool false, .bool false, .bool false, .bool false, .bool false, .bool false, .bool false, .bool false, .bool false, .bool false, .bool false, .bool false, .bool false, .bool false, .bool false, .bool false, .bool false, .bool false, .bool false, .bool false, .bool false, .bool false, .bool false, .bool false, .bool false, .bool false, .bool false, .bool false, .bool false, .bool false, .bool false, .bool false, .bool false, .bool false, .bool false, .bool false, .bool false, .bool false, .bool false, .bool false, .bool false, .bool false, .bool false, .bool false, .bool false, .bool false, .bool false, .bool false, .bool false, .bool false, .bool false, .bool false, .bool false, .bool false, .bool false, .bool false, .bool false, .bool false, .bool false, .bool false] 51)) w2.heap.size (uA (List.replicate 64 false)) 51 := Cel.new w2 _ _
        have bU : Below w2.heap.size w2 (w2.alloc (.cells #[.bool false, .bool false, .bool false, .bool false, .bool false, .bool false, .bool false, .bool false, .bool false, .bool false, .bool false, .bool false, .bool false, .bool false, .bool false, .bool false, .bool false, .bool false, .bool false, .bool false, .bool false, .bool false, .bool false, .bool false, .bool false, .bool false, .bool false, .bool false, .bool false, .bool false, .bool false, .bool false, .bool false, .bool false, .bool false, .bool false, .bool false, .bool false, .bool false, .bool false, .bool false, .bool false, .bool false, .bool false, .bool false, .bool false, .bool false, .bool false, .bool false, .bool false, .bool false, .bool false, .bool false, .bool false, .bool false, .bool false, .bool false, .bool false, .bool false, .bool false, .bool false, .bool false, .bool false, .bool false] 51)) := (Below.refl _ _).alloc (Nat.le_refl _) _
        have p3 := p2.below bU
        have hsU : Hid ((w2.alloc (.cells #[.bool false, .bool false, .bool false, .bool false, .bool false, .bool false, .bool false, .bool false, .bool false, .bool false, .bool false, .bool false, .bool false, .bool false, .bool false, .bool false, .bool false, .bool false, .bool false, .bool false, .bool false, .bool false, .bool false, .bool false, .bool false, .bool false, .bool false, .bool false, .bool false, .bool false, .bool false, .bool false, .bool false, .bool false, .bool false, .bool false, .bool false, .bool false, .bool false, .bool false, .bool false, .bool false, .bool false, .bool false, .bool false, .bool false, .bool false, .bool false, .bool false, .bool false, .bool false, .bool false, .bool false, .bool false, .bool false, .bool false, .bool false, .bool false, .bool false, .bool false, .bool false, .bool false, .bool false, .bool false] 51)).heap.size = w2.heap.size + 1) := by
          show _ = _
          simp
        go_upto_region 9 with fail
        generalize (w2.alloc (.cells #[.bool false, .bool false, .bool false, .bool false, .bool false, .bool false, .bool false, .bool false, .bool false, .bool false, .bool false, .bool false, .bool false, .bool false, .bool false, .bool false, .bool false, .bool false, .bool false, .bool false, .bool false, .bool false, .bool false, .bool false, .bool false, .bool false, .bool false, .bool false, .bool false, .bool false, .bool false, .bool false, .bool false, .bool false, .bool false, .bool false, .bool false, .bool false, .bool false, .bool false, .bool false, .bool false, .bool false, .bool false, .bool false, .bool false, .bool false, .bool false, .bool false, .bool false, .bool false, .bool false, .bool false, .bool false, .bool false, .bool false, .bool false, .bool false, .bool false, .bool false, .bool false, .bool false, .bool false, .bool false] 51)) = w3 at *
        obtain ⟨l, hl⟩ : ∃ l, Hid (τ.xs.length = l) := ⟨_, rfl⟩
        have hl4 : l ≤ 4096 := by rw [← hl.out]; exact p2.r.facts.1
        have ok := Hid.mk p2.a.ok
        have hALL := tall_any p3.a
        go_upto_region 10 with (go_at_call 14; (with_reducible refine hALL.mono ?_); rintro e w4 ⟨v4, rfl, o4, b4⟩; obtain ⟨a4, c4, e4, -, av4, sh4⟩ := o4.sl; rw [hl.out] at e4; subst e4)
        have hU4 := hU0.below b4
        have bw4 : Below w2.heap.size w2 w4 := below2 bU bU.size b4
        have HAV : Hid (∀ W, But [w2.heap.size] w4 W → AV W a4 τ.xs) := fun W hb => av4.put (fun b o e => by
          rcases sh4 with ⟨h, _⟩ | ⟨g, h, h1, h2⟩
          · rw [h] at e; cases e
          · rw [h] at e
            have e2 : g = b := by cases e; rfl
            subst e2
            exact hb.block g h2 (by have := hsU.out; simp; omega))
        have HPR : Hid (∀ W, But [w2.heap.size] w4 W → Below w2.heap.size w2 W) := fun W hb => bw4.trans (hb.below bw4.size (by simp))
        have hUs : w2.heap.size < w4.heap.size := by have := hsU.out; have := b4.size; omega
        have HPF : Hid (∀ W, But [w2.heap.size] w4 W → Pr w W B T2 M R2 9 τ) := fun W hb => p2.below (HPR.out W hb)
        clear p3 hU0 bU hALL o4 b4 av4 sh4 hsU bw4 p2
        generalize w2.heap.size = U at *
        go_loopw [37, 9] (fun v _ wr => ∃ (i : Nat) (u : List Bool), i ≤ l ∧ v = .int .i64 i ∧ Usd τ.xs i u ∧ Cel wr U (uA u) 51 ∧ But [U] w4 wr) (fun v _ _ => 4096 - (intOf v).toNat)
        case atStart => exact ⟨0, _, Nat.zero_le _, rfl, usd_zero _, hU4, But.refl _ _⟩
        case round =>
          obtain ⟨i, u, hi, rfl, hu, hc, hb⟩ := hrel
          have HU := Hid.mk hu
          clear hu
          by_cases hil : i < l
          · have hix : i < τ.xs.length := by rw [hl.out]; exact hil
            obtain ⟨b, o, rfl, hat⟩ := HAV.out _ hb i hix
            have hil' : (i : Int) < (l : Int) := by omega
            have hxr : wr.rangeAt b (o + i * 16) (c16 (ac τ.xs i)) := hat
            have hz0 := Cel.new wr (acA zA) 44
            have hth := hz0.there
            have hcx : Cel ((wr.alloc (.cells (acA zA) 44)).setCells wr.heap.size 0 (c16 (ac τ.xs i))) wr.heap.size (acA (ac τ.xs i)) 44 := hz0.ac _
            have bA : Below wr.heap.size wr ((wr.alloc (.cells (acA zA) 44)).setCells wr.heap.size 0 (c16 (ac τ.xs i))) := ((Below.refl _ wr).alloc (Nat.le_refl _) (.cells (acA zA) 44)).trans ((But.setCells _ 0 _).below (by simp) (by simp))
            have hc1 := hc.below bA
            have hb1 : But [U] w4 ((wr.alloc (.cells (acA zA) 44)).setCells wr.heap.size 0 (c16 (ac τ.xs i))) := hb.trans (.of_below bA)
            have hXU : Hid (U < wr.heap.size) := by
              have := hb.size
              show U < _
              omega
            have HLC := Hid.mk (ok.out.lc _ (ac_mem hix))
            have HFR : Hid (∀ k : Nat, (ac τ.xs i).co = (k : Int) → k ≤ 63 → u[k]? = some false ∧ Usd τ.xs (i + 1) (u.set k true)) := fun k e hk => ⟨HU.out.free ok.out hix e hk, HU.out.put e⟩
            have HSK := Hid.mk HU.out.skip
            clear hat hz0 hix hb hc
            generalize ac τ.xs i = x at *
            rw [zA_A] at *
            go_upto_region 11 with fail
            refine wp_region_lit ?_
            iterate 3 go_step
            refine wpList_load_mid rfl 44 (.tmp 39) rfl b (o + i * 16) rfl (c16 x) _ hxr Tryd.underlying44 rfl size16L ?_
            iterate 3 go_step
            refine wpList_store_mid rfl 44 (.tmp 9) (.tmp 40) rfl wr.heap.size 0 (c16 x).toArray rfl rfl hth size16L (c16_one _) ?_
            rw [show (c16 x).toArray.toList = c16 x from rfl]
            generalize (World.setCells _ wr.heap.size 0 (c16 x)) = w1 at *
            generalize wr.heap.size = X at *
            generalize (Value.agg (c16 x).toArray) = gx at *
            have n1 : w1.cell? ⟨X, 1, none⟩ = some (.int .i64 x.st) := hcx.cell (j := 1) rfl
            have n3 : w1.cell? ⟨X, 3, none⟩ = some (.int .i64 x.co) := hcx.cell (j := 3) rfl
            have n4 : w1.cell? ⟨X, 4, none⟩ = some (.int .i64 x.th) := hcx.cell (j := 4) rfl
            clear hcx hth hxr bA
            by_cases h2 : x.st = 2
            · obtain ⟨r1, r2⟩ := HLC.out.run h2
              obtain ⟨k, hk⟩ : ∃ k : Nat, x.co = (k : Int) := ⟨x.co.toNat, by omega⟩
              have hk63 : k ≤ 63 := by omega
              obtain ⟨hf, hus⟩ := HFR.out k hk hk63
              have hus' := Hid.mk hus
              have u0 : w1.cell? ⟨U, k, none⟩ = some (.bool false) := hc1.cell (uA_get hf)
              have uf := hc1.fz k
              have hc2 : Cel (w1.setCell ⟨U, k, none⟩ (.bool true)) U (uA (u.set k true)) 51 := by
                rw [← uA_set]
                exact hc1.set (j := k) _
              have hb2 : But [U] w4 (w1.setCell ⟨U, k, none⟩ (.bool true)) := hb1.set (p := ⟨U, k, none⟩) (by simp) _
              rw [hk] at n3
              rw [h2] at n1
              have q0 : (0 : Int) ≤ (k : Int) := by omega
              have q1 : ¬ (k : Int) < 0 := by omega
              have q2 : ¬ (63 : Int) < (k : Int) := by omega
              have q3 : (k : Int) < 64 := by omega
              clear hk h2 r1 r2 hf hus HFR HSK HLC hXU
              go_wp2_with fail
              go_roundw
              case rel => exact ⟨i + 1, _, by omega, by simp, hus'.out, hc2, hb2⟩
              case measure =>
                simp [intOf]
                omega
            · have hco := HLC.out.off h2
              rw [hco] at n3
              have g2 : (x.st == 2) = false := by simpa using h2
              by_cases h5 : x.st = 5
              · have hth := HLC.out.th (.inr h5)
                rw [hth] at n4
                have g5 : (x.st == 5) = true := by simpa using h5
                clear hco h2 h5 hth HLC HFR hXU
                go_wp2_with fail
                go_roundw
                case rel => exact ⟨i + 1, u, by omega, by simp, HSK.out, hc1, hb1⟩
                case measure =>
                  simp [intOf]
                  omega
              · have g5 : (x.st == 5) = false := by simpa using h5
                by_cases h1 : x.st = 1
                · have hth := HLC.out.th (.inl h1)
                  rw [hth] at n4
                  have g1 : (x.st == 1) = true := by simpa using h1
                  clear hco h2 h5 h1 hth HLC HFR hXU
                  go_wp2_with fail
                  go_roundw
                  case rel => exact ⟨i + 1, u, by omega, by simp, HSK.out, hc1, hb1⟩
                  case measure =>
                    simp [intOf]
                    omega
                · have g1 : (x.st == 1) = false := by simpa using h1
                  clear hco h2 h5 h1 HLC HFR hXU
                  go_wp2_with fail
                  go_roundw
                  case rel => exact ⟨i + 1, u, by omega, by simp, HSK.out, hc1, hb1⟩
                  case measure =>
                    simp [intOf]
                    omega
          · obtain rfl : i = l := by omega
            have pF := HPF.out _ hb
            go_wp2_with fail
            go_roundw
            case rel => exact ⟨j + 1, T2, R2, τ, by omega, by simp, pF⟩
            case measure =>
              simp [intOf]
              omega
      · obtain rfl : j = n := by omega
        have hL := HL _ hp.s.below
        go_wp2_with (go_at_call 8; (with_reducible refine hL.mono ?_); rintro e w3 ⟨rfl, b3⟩)
        go_ret
        exact ⟨rfl, hp.s.below.trans (b3.mono hp.s.below.size)⟩
end Go.Proofs.YtjgclehghnmhnaaDoor
namespace Go.Proofs.YtjgclehghnmhnaaDoor
open Go Go.RowKit

theorem deb_datum : Rows.laid_math_bits_deBruijn64tab (H := Unit) = Lib.tabData .u8 (Lib.deBruijn64tab.map Int.ofNat) := by kernel_rfl
theorem deb_global : Tryd.prog.globalNamed "math/bits.deBruijn64tab" = some 1 := by kernel_rfl
theorem deb_type : (Tryd.prog.globals[1]?).map (·.type) = some 125 := by kernel_rfl
theorem fol_datum : Rows.laid_wherry_life_follows (H := Unit) = Lib.tabData .u8 (folL.map Int.ofNat) := by kernel_rfl
theorem fol_global : Tryd.prog.globalNamed "wherry/life.follows" = some 0 := by kernel_rfl
theorem fol_type : (Tryd.prog.globals[0]?).map (·.type) = some 112 := by kernel_rfl
theorem lt_of_cell {W : World} {b j : Nat} {v : Value} (h : W.cell? ⟨b, j, none⟩ = some v) : b < W.heap.size := World.block_lt_of_cell? W ⟨b, j, none⟩ h
theorem deb_of {W : World} {rest : List (String × DataW Unit)} (h : laidMet Tryd.prog (("math/bits.deBruijn64tab", Rows.laid_math_bits_deBruijn64tab) :: rest) W) : Tab W := by
  rw [deb_datum] at h
  have hT := Lib.tabIs_of_head deb_global deb_type Tryd.underlying125 Tryd.underlying5 (by kernel_rfl) (by kernel_rfl) h
  have hc : TabAt 1 Lib.deBruijn64tab W := by
    intro j hj
    have := hT.cell deb_global j (by simpa using hj)
    rw [this]
    congr 2
    simp only [List.getD_eq_getElem?_getD, List.getElem?_map]
    cases Lib.deBruijn64tab[j]? <;> rfl
  exact ⟨lt_of_cell (hc 0 (by decide)), hc⟩
theorem fol_of {W : World} {rest : List (String × DataW Unit)} (h : laidMet Tryd.prog (("wherry/life.follows", Rows.laid_wherry_life_follows) :: rest) W) : Fol W := by
  rw [fol_datum] at h
  have hT := Lib.tabIs_of_head fol_global fol_type Tryd.underlying112 Tryd.underlying86 (by kernel_rfl) (by kernel_rfl) h
  have hc : ∀ (j x : Nat), folL[j]? = some x → W.cell? ⟨0, j, none⟩ = some (.int .u8 (x : Int)) := fun j x hx => by
    have hj := (List.getElem?_eq_some_iff.1 hx).1
    have := hT.cell fol_global j (by simpa using hj)
    rw [this]
    congr 2
    simp only [List.getD_eq_getElem?_getD, List.getElem?_map, hx]
    rfl
  exact ⟨lt_of_cell (hc 0 0 rfl), hc⟩
end Go.Proofs.YtjgclehghnmhnaaDoor
