/- The first of a thread's. -/
import Derived.Test.YtcffmdimfmpheaaDoorMlDel
namespace Go.Proofs.YtcffmdimfmpheaaDoor
open Go Go.RowKit

/-- What is stored whole, told as a result. -/
theorem results_ev2 {fn : Func} {p q : Tmp} (h : fn.results = #[.cell p 33, .tmp q]) (tmps : Array Value) (w : World) (g : Nat) (e : Ev) (b : Bool) (hp : tmps.getD p undef = .pointer (some ⟨g, 0, none⟩)) (hq : tmps.getD q undef = .bool b) (hc : w.rangeAt g 0 (c15 e)) : (results fn tmps).run Tryd.prog w = .ok (.tuple #[.agg (evA e), .bool b]) w := by
  have hp' : tmps[p]?.getD undef = .pointer (some ⟨g, 0, none⟩) := by simpa using hp
  have hq' : tmps[q]?.getD undef = .bool b := by simpa using hq
  have hl := run_loadVar_mid (P := Tryd.prog) w g 0 33 (c15 e) _ hc Tryd.underlying33 rfl size15
  simp [results, h, hp', hq', asAddr, hl]
  rfl
theorem But.setCells {b : Nat} : ∀ (vs : List Value) (o : Nat) (w : World), But [b] w (w.setCells b o vs)
  | [], _, w => But.refl _ w
  | v :: vs, o, w => ((But.refl [b] w).set (p := ⟨b, o, none⟩) (by simp) v).trans (But.setCells vs (o + 1) _)
theorem at15_there {w : World} {b : Nat} {e : Ev} (h : At15 w b 0 e) (hf : ∀ j, w.frozen? ⟨b, j, none⟩ = false) : w.there b 0 15 := fun k hk => ⟨by rw [h k _ (List.getElem?_eq_getElem (by rw [c15_len]; exact hk))]; rfl, hf _⟩
theorem fz_new (w : World) (cs : Array Value) (t : TypeId) (j : Nat) : (w.alloc (.cells cs t)).frozen? ⟨w.heap.size, j, none⟩ = false := (Cel.new w cs t).fz j
theorem fz_below {w w' : World} {b : Nat} (hb : Below w.heap.size w w') (hl : b < w.heap.size) (h : ∀ j, w.frozen? ⟨b, j, none⟩ = false) (j : Nat) : w'.frozen? ⟨b, j, none⟩ = false := by
  rw [hb.frozen (p := ⟨b, j, none⟩) hl]
  exact h j
theorem z15_A : evA z15 = #[.int .i64 0, .int .i64 0, .int .i64 0, .int .i64 0, .int .i64 0, .int .i64 0, .int .i64 0, .int .i64 0, .int .i64 0, .int .i64 0, .int .i64 0, .int .i64 0, .int .i64 0, .int .i64 0, .int .i64 0] := rfl
set_option maxHeartbeats 1000000 in
set_option maxRecDepth 100000 in
theorem first_any {w : World} {X c : Nat} {a : Option Addr} {t : Int} {xs : List Ev} (hx : EV w a xs) (hX : w.cell? ⟨X, 0, none⟩ = some (.int .i64 t)) (hn : xs.length ≤ 4096) :
    Calls Tryd.prog 33 #[.slice a xs.length c, .func (.func 43) #[] #[.pointer (some ⟨X, 0, none⟩)]] w fun e w' => e = .returned (.tuple #[.agg (evA (fndV xs t)), .bool (fndB xs t)]) ∧ Below w.heap.size w w' := by
  have ba : Below w.heap.size w (w.alloc (.cells (evA z15) 33)) := (Below.refl _ _).alloc (Nat.le_refl _) _
  have IX := tidx_any (c := c) (hx.below ba) (cell_on ba hX) hn
  have HA : ∀ W, Below (w.alloc (.cells (evA z15) 33)).heap.size (w.alloc (.cells (evA z15) 33)) W → EV W a xs ∧ W.there w.heap.size 0 15 ∧ Below w.heap.size w W := fun W b => ⟨(hx.below ba).below b, at15_there ((at15_new w z15).below b) (fz_below b (by simp) (fz_new w _ _)), below2 ba ba.size b⟩
  rw [z15_A] at *
  clear ba hX
  obtain ⟨n, hN⟩ : ∃ n, Hid (xs.length = n) := ⟨_, rfl⟩
  rw [hN.out] at IX ⊢
  go_enter Tryd.func33, Tryd.ntmps33
  go_upto_region 2 with (go_at_call 42; (with_reducible refine IX.mono ?_); rintro e w1 ⟨z, rfl, hz, b1⟩)
  obtain ⟨e1, th1, bw⟩ := HA _ b1
  clear IX HA b1
  rcases hz with ⟨rfl, hall⟩ | ⟨k0, rfl, hk0, he0, hall⟩
  · have HF : Hid (fndV xs t = z15 ∧ fndB xs t = false) := fnd_none hall
    have hb2 : Below w.heap.size w (w1.setCells w.heap.size 0 (c15 z15)) := bw.trans ((But.setCells (c15 z15) 0 w1).below bw.size (by simp))
    have hfin := World.rangeAt_setCells_same w1 w.heap.size 0 (c15 z15) th1
    clear hall e1
    go_upto_region 3 with fail
    refine wp_region_lit ?_
    iterate 3 go_step
    refine wpList_store_mid rfl 33 (.tmp 4) (.tmp 12) rfl w.heap.size 0 (c15 z15).toArray rfl rfl th1 size15 (c15_one _) ?_
    rw [show (c15 z15).toArray.toList = c15 z15 from rfl]
    generalize w1.setCells w.heap.size 0 (c15 z15) = wf at *
    go_wp2_with fail
    exact bodyPost_ret (results_ev2 rfl _ _ w.heap.size z15 false rfl rfl hfin) rfl ⟨by rw [HF.out.1, HF.out.2], hb2⟩
  · have HF : Hid (fndV xs t = ev xs k0 ∧ fndB xs t = true) := fnd_some hk0 he0 hall
    obtain ⟨b, o, rfl, hc⟩ := e1 k0 hk0
    have hk1 : (k0 : Int) < (n : Int) := by rw [← hN.out]; omega
    have hb2 : Below w.heap.size w (w1.setCells w.heap.size 0 (c15 (ev xs k0))) := bw.trans ((But.setCells (c15 (ev xs k0)) 0 w1).below bw.size (by simp))
    have hfin := World.rangeAt_setCells_same w1 w.heap.size 0 (c15 (ev xs k0)) th1
    clear hall he0
    generalize ev xs k0 = x at *
    go_upto_region 4 with fail
    refine wp_region_lit ?_
    iterate 9 go_step
    refine wpList_load_mid rfl 33 (.tmp 15) rfl b (o + k0 * 15) rfl (c15 x) _ hc Tryd.underlying33 rfl size15 ?_
    refine wpList_store_mid rfl 33 (.tmp 4) (.tmp 16) rfl w.heap.size 0 (c15 x).toArray rfl rfl th1 size15 (c15_one _) ?_
    rw [show (c15 x).toArray.toList = c15 x from rfl]
    generalize w1.setCells w.heap.size 0 (c15 x) = wf at *
    go_wp2_with fail
    exact bodyPost_ret (results_ev2 rfl _ _ w.heap.size x true rfl rfl hfin) rfl ⟨by rw [HF.out.1, HF.out.2], hb2⟩

end Go.Proofs.YtcffmdimfmpheaaDoor
