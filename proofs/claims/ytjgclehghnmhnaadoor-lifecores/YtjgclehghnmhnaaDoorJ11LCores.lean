/- Run, Load, Block, Preempt, Cache, Discard. -/
/- Drop. -/
import Derived.Test.YtjgclehghnmhnaaDoorJ10LCores
import Derived.Test.YtjgclehghnmhnaaDoorLfC
namespace Go.Proofs.YtjgclehghnmhnaaDoor
open Go Go.RowKit

theorem opS_bT {B S G M : Nat} {pb : Int → Nat} {σ : Sta} {s : Nat} {chk : Ac → Int} {f : Ac → Ac} (hs : Srt σ.xs) (hid : ∀ a, (f a).id = a.id) (i : Int) : bT B S G M pb (opS s chk f σ i).xs = bT B S G M pb σ.xs := by
  unfold opS opX
  cases hf : fndA σ.xs i with
  | none => rfl
  | some a =>
    obtain ⟨ha, _⟩ := fnd_some hf
    dsimp only
    split
    · unfold bT
      rw [map_pb (ids_insA hs ⟨a, ha, (hid a).symm⟩)]
    · rfl

section
variable {w : World} {B N : Nat} {T : List Nat} {σ : Sta}
set_option maxHeartbeats 1000000 in
set_option maxRecDepth 100000 in
theorem block_any (h : TQ w B T N σ) (hV : Env w) {i : Int} (hi : In64 i) :
    Calls Tryd.prog 22 #[.pointer (some ⟨B, 0, none⟩), .int .i64 i] w fun e w' => e = .returned (.int .i64 (opE 4 blkK σ.xs i)) ∧ TQ w' B T N (opS 4 blkK blkF σ i) ∧ But T w w' := by
  obtain ⟨S, G, M, pb, rfl, hm⟩ := h
  have hP := pass_blk hm hi hV
  have hbt := opS_bT (B := B) (S := S) (G := G) (M := M) (pb := pb) (s := 4) (chk := blkK) (f := blkF) hm.ok.srt (fun _ => rfl) i
  generalize opS 4 blkK blkF σ i = σ1 at *
  generalize opE 4 blkK σ.xs i = ea at *
  have HB := Hid.mk hbt
  clear hbt
  go_enter Tryd.func22, Tryd.ntmps22
  go_wp2_with (go_at_call 45; (with_reducible refine hP.mono ?_); rintro e w1 ⟨rfl, h1, b1⟩)
  go_ret
  exact ⟨rfl, ⟨S, G, M, pb, HB.out.symm, h1⟩, b1⟩
set_option maxHeartbeats 1000000 in
set_option maxRecDepth 100000 in
theorem cache_any (h : TQ w B T N σ) (hV : Env w) {i : Int} (hi : In64 i) :
    Calls Tryd.prog 24 #[.pointer (some ⟨B, 0, none⟩), .int .i64 i] w fun e w' => e = .returned (.int .i64 (opE 16 noK σ.xs i)) ∧ TQ w' B T N (opS 16 noK cacF σ i) ∧ But T w w' := by
  obtain ⟨S, G, M, pb, rfl, hm⟩ := h
  have hP := pass_cac hm hi hV
  have hbt := opS_bT (B := B) (S := S) (G := G) (M := M) (pb := pb) (s := 16) (chk := noK) (f := cacF) hm.ok.srt (fun _ => rfl) i
  generalize opS 16 noK cacF σ i = σ1 at *
  generalize opE 16 noK σ.xs i = ea at *
  have HB := Hid.mk hbt
  clear hbt
  go_enter Tryd.func24, Tryd.ntmps24
  go_wp2_with (go_at_call 45; (with_reducible refine hP.mono ?_); rintro e w1 ⟨rfl, h1, b1⟩)
  go_ret
  exact ⟨rfl, ⟨S, G, M, pb, HB.out.symm, h1⟩, b1⟩
set_option maxHeartbeats 1000000 in
set_option maxRecDepth 100000 in
theorem load_any (h : TQ w B T N σ) (hV : Env w) {i : Int} (hi : In64 i) (t : Int) :
    Calls Tryd.prog 21 #[.pointer (some ⟨B, 0, none⟩), .int .i64 i, .int .i64 t] w fun e w' => e = .returned (.int .i64 (opE 2 (lodK t) σ.xs i)) ∧ TQ w' B T N (opS 2 (lodK t) (lodF t) σ i) ∧ But T w w' := by
  obtain ⟨S, G, M, pb, rfl, hm⟩ := h
  have ba : Below w.heap.size w (w.alloc (.cells #[.int .i64 t] 3)) := (Below.refl _ _).alloc (Nat.le_refl _) _
  have hP := pass_lod (X := w.heap.size) (hm.below ba) hi (hV.on ba) ((Cel.new w #[.int .i64 t] 3).cell (j := 0) rfl)
  have hbt := opS_bT (B := B) (S := S) (G := G) (M := M) (pb := pb) (s := 2) (chk := lodK t) (f := lodF t) hm.ok.srt (fun _ => rfl) i
  generalize opS 2 (lodK t) (lodF t) σ i = σ1 at *
  generalize opE 2 (lodK t) σ.xs i = ea at *
  have HB := Hid.mk hbt
  clear hbt
  go_enter Tryd.func21, Tryd.ntmps21
  go_wp2_with (go_at_call 45; (with_reducible refine hP.mono ?_); rintro e w1 ⟨rfl, h1, b1⟩)
  go_ret
  exact ⟨rfl, ⟨S, G, M, pb, HB.out.symm, h1⟩, (But.of_below ba).trans b1⟩
set_option maxHeartbeats 1000000 in
set_option maxRecDepth 100000 in
theorem run_any (h : TQ w B T N σ) (hV : Env w) {i : Int} (hi : In64 i) (c : Int) :
    Calls Tryd.prog 20 #[.pointer (some ⟨B, 0, none⟩), .int .i64 i, .int .i64 c] w fun e w' => e = .returned (.int .i64 (opE 1 (runK σ.xs c) σ.xs i)) ∧ TQ w' B T N (opS 1 (runK σ.xs c) (runF c) σ i) ∧ But T w w' := by
  obtain ⟨S, G, M, pb, rfl, hm⟩ := h
  have b1 : Below w.heap.size w (w.alloc (.cells #[.pointer (some ⟨B, 0, none⟩)] 24)) := (Below.refl _ _).alloc (Nat.le_refl _) _
  have ba : Below w.heap.size w ((w.alloc (.cells #[.pointer (some ⟨B, 0, none⟩)] 24)).alloc (.cells #[.int .i64 c] 3)) := b1.alloc b1.size _
  have c1 := (Cel.new (w.alloc (.cells #[.pointer (some ⟨B, 0, none⟩)] 24)) #[.int .i64 c] 3).cell (j := 0) (v := .int .i64 c) rfl
  have c0 := ((Cel.new w #[.pointer (some ⟨B, 0, none⟩)] 24).below ((Below.refl _ _).alloc (Nat.le_refl _) (.cells #[.int .i64 c] 3))).cell (j := 0) (v := .pointer (some ⟨B, 0, none⟩)) rfl
  rw [World.size_alloc] at c1
  have hP := pass_run (X := w.heap.size + 1) (Y := w.heap.size) (hm.below ba) hi (hV.on ba) c1 c0
  have hbt := opS_bT (B := B) (S := S) (G := G) (M := M) (pb := pb) (s := 1) (chk := runK σ.xs c) (f := runF c) hm.ok.srt (fun _ => rfl) i
  generalize opS 1 (runK σ.xs c) (runF c) σ i = σ1 at *
  generalize opE 1 (runK σ.xs c) σ.xs i = ea at *
  have HB := Hid.mk hbt
  clear hbt b1
  go_enter Tryd.func20, Tryd.ntmps20
  go_wp2_with (go_at_call 45; (with_reducible refine hP.mono ?_); rintro e w1 ⟨rfl, h1, b1⟩)
  go_ret
  exact ⟨rfl, ⟨S, G, M, pb, HB.out.symm, h1⟩, (But.of_below ba).trans b1⟩
set_option maxHeartbeats 1000000 in
set_option maxRecDepth 100000 in
theorem preempt_any (h : TQ w B T N σ) (hV : Env w) {i : Int} (hi : In64 i) (c : Cx) :
    Calls Tryd.prog 23 #[.pointer (some ⟨B, 0, none⟩), .int .i64 i, .agg (cxa c)] w fun e w' => e = .returned (.int .i64 (opE 8 noK σ.xs i)) ∧ TQ w' B T N (opS 8 noK (preF c) σ i) ∧ But T w w' := by
  obtain ⟨S, G, M, pb, rfl, hm⟩ := h
  have ba : Below w.heap.size w (w.alloc (.cells (cxa c) 30)) := (Below.refl _ _).alloc (Nat.le_refl _) _
  have hr : (w.alloc (.cells (cxa c) 30)).rangeAt w.heap.size 0 (cxl c) := fun j v hv => by
    rw [Nat.zero_add]
    exact (Cel.new w (cxa c) 30).cell (by simpa [cxa, cxl] using hv)
  have hP := pass_pre (X := w.heap.size) (hm.below ba) hi (hV.on ba) hr (fun hx => by have := hm.lt hx; omega)
  have hbt := opS_bT (B := B) (S := S) (G := G) (M := M) (pb := pb) (s := 8) (chk := noK) (f := preF c) hm.ok.srt (fun _ => rfl) i
  generalize opS 8 noK (preF c) σ i = σ1 at *
  generalize opE 8 noK σ.xs i = ea at *
  have HB := Hid.mk hbt
  clear hbt hr
  unfold cxa at *
  go_enter Tryd.func23, Tryd.ntmps23
  go_wp2_with (go_at_call 45; (with_reducible refine hP.mono ?_); rintro e w1 ⟨rfl, h1, b1⟩)
  go_ret
  exact ⟨rfl, ⟨S, G, M, pb, HB.out.symm, h1⟩, (But.of_below ba).trans b1⟩
end

theorem dis_none {σ : Sta} {i : Int} (hf : fndA σ.xs i = none) : opE 32 noK σ.xs i = 4 ∧ disS σ i = σ := by
  have e : opE 32 noK σ.xs i = 4 := by unfold opE; rw [hf]
  exact ⟨e, by unfold disS; rw [e]; rfl⟩
theorem dis_no {σ : Sta} {i : Int} {a : Ac} (hf : fndA σ.xs i = some a) (hb : folB 32 a.st = false) : opE 32 noK σ.xs i = 5 ∧ disS σ i = σ := by
  have e : opE 32 noK σ.xs i = 5 := by unfold opE; rw [hf]; dsimp only; rw [hb]; rfl
  exact ⟨e, by unfold disS; rw [e]; rfl⟩
theorem dis_yes {σ : Sta} {i : Int} {a : Ac} (hf : fndA σ.xs i = some a) (hb : folB 32 a.st = true) : opE 32 noK σ.xs i = 0 ∧ disS σ i = endS σ i := by
  have e : opE 32 noK σ.xs i = 0 := by unfold opE; rw [hf]; dsimp only; rw [hb]; rfl
  exact ⟨e, by unfold disS; rw [e]; rfl⟩
section
variable {w : World} {B S G M N : Nat} {pb : Int → Nat} {σ : Sta}
set_option maxHeartbeats 1000000 in
theorem disD (h : TM w B S G M N pb σ) {a : Ac} (ha : a ∈ σ.xs) {Y : Nat} (hY : w.cell? ⟨Y, 0, none⟩ = some (.pointer (some ⟨B, 0, none⟩))) :
    Calls Tryd.prog 53 #[.pointer (some ⟨pb a.id, 0, none⟩), .pointer (some ⟨Y, 0, none⟩)] w fun e w' => e = .returned (.int .i64 0) ∧ TM w' B S G M N pb (endS σ a.id) ∧ Step (bT B S G M pb σ.xs) w (bT B S G M pb (endS σ a.id).xs) w' := by
  have hE := end_any h.drew ha
  have c0 : w.cell? ⟨pb a.id, 0, none⟩ = some (.int .i64 a.id) := (h.a a ha).cell (j := 0) rfl
  generalize endS σ a.id = σ1 at *
  generalize bT B S G M pb σ.xs = T at *
  generalize bT B S G M pb σ1.xs = T1 at *
  clear ha h
  go_enter Tryd.func53, Tryd.ntmps53
  go_upto_region 1 with fail
  go_region_with (go_at_call 54; (with_reducible refine hE.mono ?_); rintro e w1 ⟨rfl, h1, b1⟩)
  all_goals
    go_wp2_with fail
    go_ret
    exact ⟨rfl, h1, (Step.keep (But.refl [] w).drew).trans b1⟩
set_option maxHeartbeats 1000000 in
set_option maxRecDepth 100000 in
theorem pass_dis (h : TM w B S G M N pb σ) {i : Int} (hi : In64 i) (hV : Env w) {Y : Nat} (hY : w.cell? ⟨Y, 0, none⟩ = some (.pointer (some ⟨B, 0, none⟩))) :
    Calls Tryd.prog 45 #[.func (.func 46) #[.pointer (some ⟨B, 0, none⟩)] #[], .int .i64 i, .int .u8 32, .func (.func 53) #[] #[.pointer (some ⟨Y, 0, none⟩)]] w fun e w' => e = .returned (.int .i64 (opE 32 noK σ.xs i)) ∧ TM w' B S G M N pb (disS σ i) ∧ Step (bT B S G M pb σ.xs) w (bT B S G M pb (disS σ i).xs) w' := by
  cases hf : fndA σ.xs i with
  | none =>
    have hA := ask_none (s := 32) h hi hf
    rw [(dis_none hf).1, (dis_none hf).2]
    clear hf
    go_enter Tryd.func45, Tryd.ntmps45
    go_wp2_with (go_at_call 46; refine hA.mono ?_; rintro e w' ⟨rfl, hw⟩; subst w')
    go_ret
    exact ⟨rfl, h, Step.refl _ _⟩
  | some a =>
    have hA := ask_some (s := 32) h hf (by simp [stepB]) hV.f
    obtain ⟨ha, rfl⟩ := fnd_some hf
    cases hb : folB 32 a.st
    · rw [(dis_no hf hb).1, (dis_no hf hb).2]
      rw [hb, if_neg (by simp)] at hA
      clear hf hb
      go_enter Tryd.func45, Tryd.ntmps45
      go_wp2_with (go_at_call 46; refine hA.mono ?_; rintro e w' ⟨rfl, hw⟩; subst w')
      go_ret
      exact ⟨rfl, h, Step.refl _ _⟩
    · have hD := disD h ha hY
      rw [(dis_yes hf hb).1, (dis_yes hf hb).2]
      rw [hb, if_pos rfl] at hA
      clear hf hb
      generalize endS σ a.id = σ1 at hD ⊢
      generalize bT B S G M pb σ1.xs = T1 at *
      go_enter Tryd.func45, Tryd.ntmps45
      go_wp2_with (first
        | (go_at_call 46; refine hA.mono ?_; rintro e w' ⟨rfl, hw⟩; subst w')
        | (go_at_call 53; (with_reducible refine hD.mono ?_); rintro e w1 ⟨rfl, h1, b1⟩))
      go_ret
      exact ⟨rfl, h1, b1⟩
end
section
variable {w : World} {B N : Nat} {T : List Nat} {σ : Sta}
set_option maxHeartbeats 1000000 in
set_option maxRecDepth 100000 in
theorem discard_any (h : TQ w B T N σ) (hV : Env w) {i : Int} (hi : In64 i) :
    Calls Tryd.prog 25 #[.pointer (some ⟨B, 0, none⟩), .int .i64 i] w fun e w' => e = .returned (.int .i64 (opE 32 noK σ.xs i)) ∧ ∃ T', TQ w' B T' N (disS σ i) ∧ Step T w T' w' := by
  obtain ⟨S, G, M, pb, rfl, hm⟩ := h
  have ba : Below w.heap.size w (w.alloc (.cells #[.pointer (some ⟨B, 0, none⟩)] 24)) := (Below.refl _ _).alloc (Nat.le_refl _) _
  have hP := pass_dis (Y := w.heap.size) (hm.below ba) hi (hV.on ba) ((Cel.new w #[.pointer (some ⟨B, 0, none⟩)] 24).cell (j := 0) rfl)
  generalize disS σ i = σ1 at *
  generalize opE 32 noK σ.xs i = ea at *
  go_enter Tryd.func25, Tryd.ntmps25
  go_wp2_with (go_at_call 45; (with_reducible refine hP.mono ?_); rintro e w1 ⟨rfl, h1, b1⟩)
  go_ret
  exact ⟨rfl, _, ⟨S, G, M, pb, rfl, h1⟩, (Step.keep (.of_below ba)).trans b1⟩
end
end Go.Proofs.YtjgclehghnmhnaaDoor
namespace Go.Proofs.YtjgclehghnmhnaaDoor
open Go Go.RowKit

section
variable {w : World} {B N : Nat} {T : List Nat} {σ : Sta}
theorem drpN_le (sp : Int) (xs : List Ac) : drpN sp xs ≤ xs.length := List.length_filter_le _ _
theorem drpN_cons (sp : Int) (a : Ac) (r : List Ac) : drpN sp (a :: r) = (if a.sp = sp then 1 else 0) + drpN sp r := by
  unfold drpN
  rw [List.filter_cons]
  by_cases h : a.sp = sp
  · simp [h, Nat.add_comm]
  · simp [h]
theorem drpS_cons (sp : Int) (a : Ac) (r : List Ac) (s : Sta) : drpS sp (a :: r) s = drpS sp r (if a.sp = sp then endS s a.id else s) := rfl
set_option maxHeartbeats 2000000 in
set_option maxRecDepth 100000 in
theorem drop_any (h : TQ w B T N σ) (sp : Int) :
    Calls Tryd.prog 28 #[.pointer (some ⟨B, 0, none⟩), .int .i64 sp] w fun e w' => e = .returned (.int .i64 (drpN sp σ.xs)) ∧ ∃ T', TQ w' B T' N (drpS sp σ.xs σ) ∧ Step T w T' w' := by
  obtain ⟨S, G, M, pb, rfl, hm⟩ := h
  have hM := tmade hm
  have c0 := hm.c0
  have hA := all_any hm.s
  have hlen : σ.xs.length ≤ 4096 := Nat.le_trans hm.ok.len hm.ok.n4
  obtain ⟨n, hN⟩ : ∃ n, Hid (σ.xs.length = n) := ⟨_, rfl⟩
  have hn' : n ≤ 4096 := by rw [← hN.out]; exact hlen
  rw [hm.ok.ids] at hA
  clear hlen
  go_enter Tryd.func28, Tryd.ntmps28
  go_wp2_with (first
    | (go_at_call 40; refine hM.mono ?_; rintro e w' ⟨rfl, hw⟩; subst w')
    | (go_at_call 41; refine hA.mono ?_; rintro e w1 ⟨v, rfl, hv, hB1⟩; have hvl := hv.lt; obtain ⟨ra, rc, rfl, hrd⟩ := hv.open'; rw [List.length_map, hN.out]))
  clear hv hA hM
  have hS1 : Step (bT B S G M pb σ.xs) w (bT B S G M pb σ.xs) w1 := Step.keep (.of_below hB1)
  go_loopw [5, 17, 7] (fun s v _ wr => ∃ (j k : Nat) (τ : Sta), j ≤ n ∧ v = .int .i64 j ∧ s = .int .i64 k ∧ TM wr B S G M N pb τ ∧ Step (bT B S G M pb σ.xs) w1 (bT B S G M pb τ.xs) wr ∧ drpS sp (σ.xs.drop j) τ = drpS sp σ.xs σ ∧ k + drpN sp (σ.xs.drop j) = drpN sp σ.xs ∧ ∀ a ∈ σ.xs.drop j, a ∈ τ.xs) (fun _ v _ _ => 4096 - (intOf v).toNat)
  case atStart => exact ⟨0, 0, σ, Nat.zero_le _, rfl, rfl, hm.below hB1, Step.refl _ _, rfl, by simp, fun a ha => ha⟩
  case round =>
    obtain ⟨j, k, τ, hj, rfl, rfl, hmr, hst, hd, hk, hin⟩ := hrel
    have HD := Hid.mk hd
    have HK := Hid.mk hk
    have HI : Hid (∀ a ∈ σ.xs.drop j, a ∈ τ.xs) := hin
    have hkl : k ≤ 4096 := by
      have := drpN_le sp σ.xs
      have := hN.out
      omega
    clear hd hk hin
    by_cases hlt : j < n
    · have hjx : j < σ.xs.length := by rw [hN.out]; exact hlt
      have hdr := ac_drop hjx
      obtain ⟨g, hg, hgc⟩ := hrd j (ac σ.xs j).id (by rw [List.getElem?_map, ac_get hjx]; rfl)
      subst hg
      have hgn : g ∉ bT B S G M pb σ.xs := fun hx => by
        have := hm.lt hx
        have := (hvl g rfl).1
        omega
      have hgc' := hst.but.cell' hgc hgn
      have hlt' : (j : Int) < (n : Int) := by omega
      have cB := hmr.c1
      have hax : ac σ.xs j ∈ τ.xs := HI.out _ (by rw [hdr]; simp)
      have hL := hmr.m.look1 (fB_some hmr.ok hax)
      have d2 : wr.cell? ⟨pb (ac σ.xs j).id, 2, none⟩ = some (.int .i64 (ac σ.xs j).sp) := (hmr.a _ hax).cell (j := 2) rfl
      have hnx : Hid (∀ a ∈ σ.xs.drop (j + 1), a ∈ τ.xs ∧ a.id ≠ (ac σ.xs j).id) := fun a ha => by
        refine ⟨HI.out _ (by rw [hdr]; exact List.mem_cons_of_mem _ ha), ?_⟩
        have hsd : Srt (σ.xs.drop j) := List.Pairwise.sublist (List.drop_sublist _ _) hm.ok.srt
        rw [hdr] at hsd
        have := (List.pairwise_cons.1 hsd).1 a ha
        omega
      have hE := end_any hmr hax
      have hw1 : IntKind.i64.wrap ((k : Int) + 1) = ((k + 1 : Nat) : Int) := by rw [IntKind.wrap_i64]; omega
      have hd1 := HD.out
      have hk1 := HK.out
      rw [hdr] at hd1 hk1
      rw [drpN_cons] at hk1
      rw [drpS_cons] at hd1
      clear hgc hjx hdr hax
      by_cases hp : (ac σ.xs j).sp = sp
      · have hp' : ((ac σ.xs j).sp == sp) = true := by simpa using hp
        rw [if_pos hp] at hd1 hk1
        have HD1 := Hid.mk hd1
        have HK1 := Hid.mk hk1
        clear hp hd1 hk1
        generalize ac σ.xs j = x at *
        go_wp2_with (first
          | (go_at_call 54; (with_reducible refine hE.mono ?_); rintro e w2 ⟨rfl, h2, b2⟩)
          | go_in)
        go_roundw
        case rel => exact ⟨j + 1, k + 1, endS τ x.id, by omega, by simp, by simp, h2, hst.trans b2, HD1.out, by have := HK1.out; omega, fun a ha => mem_remA.2 (hnx.out a ha)⟩
        case measure =>
          simp [intOf]
          omega
      · have hp' : ((ac σ.xs j).sp == sp) = false := by simpa using hp
        rw [if_neg hp] at hd1 hk1
        have HD1 := Hid.mk hd1
        have HK1 := Hid.mk hk1
        clear hp hd1 hk1 hE
        generalize ac σ.xs j = x at *
        go_wp2_with fail
        go_roundw
        case rel => exact ⟨j + 1, k, τ, by omega, by simp, rfl, hmr, hst, HD1.out, by have := HK1.out; omega, fun a ha => (hnx.out a ha).1⟩
        case measure =>
          simp [intOf]
          omega
    · obtain rfl : j = n := by omega
      have hd1 := HD.out
      have hk1 := HK.out
      rw [List.drop_eq_nil_of_le (by rw [hN.out]; exact Nat.le_refl _)] at hd1 hk1
      have HD1 : Hid (τ = drpS sp σ.xs σ) := hd1
      have HK1 : Hid (k = drpN sp σ.xs) := hk1
      clear hd1 hk1
      go_wp2_with fail
      go_ret
      refine ⟨by rw [← HK1.out]; rfl, bT B S G M pb τ.xs, ⟨S, G, M, pb, by rw [← HD1.out], by rw [← HD1.out]; exact hmr⟩, hS1.trans hst⟩
end
end Go.Proofs.YtjgclehghnmhnaaDoor
