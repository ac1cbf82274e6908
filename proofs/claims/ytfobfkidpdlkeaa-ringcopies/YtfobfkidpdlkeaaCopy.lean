/- The contract of copyTo. -/
import Derived.Test.YtfobfkidpdlkeaaNew
import Derived.Laws.CopyOwn
import Derived.Deep.RegionLaw
import Derived.WideShapes
namespace Go.Proofs.Ytfobfkidpdlkeaa
open Go.RowKit

theorem size3 : (Try.prog.info? 3).map (·.size) = some 1 := by kernel_rfl

/-- A row of ints: block T has just these. -/
def RowAt (w : World) (T : Nat) (zs : List Int) : Prop := w.heap[T]? = some (.cells (zs.map (Value.int .i64)).toArray 3 (0, 0))
theorem RowAt.lt {w : World} {T : Nat} {zs : List Int} (h : RowAt w T zs) : T < w.heap.size := (Array.getElem?_eq_some_iff.1 h).1

/-- The first piece of a queue's slots, and the second one. -/
theorem holds_first {xs q : List Int} {n f k : Nat} (h : Holds xs n f q) (hk : k ≤ q.length) (hfk : f + k ≤ n) : (xs.drop f).take k = q.take k := by
  apply List.ext_getElem?
  intro i
  by_cases hi : i < k
  · rw [List.getElem?_take_of_lt hi, List.getElem?_take_of_lt hi, List.getElem?_drop]
    have h1 := h i q[i] (by simp)
    rw [Nat.mod_eq_of_lt (by omega)] at h1
    rw [h1, List.getElem?_eq_getElem (by omega)]
  · rw [List.getElem?_eq_none (by rw [List.length_take]; omega), List.getElem?_eq_none (by rw [List.length_take]; omega)]
theorem holds_second {xs q : List Int} {n f k : Nat} (h : Holds xs n f q) (hl : xs.length = n) (hf : f < n) (hq : q.length ≤ n) (hfk : f + k = n) : xs.take (q.length - k) = q.drop k := by
  apply List.ext_getElem?
  intro i
  rw [List.getElem?_drop]
  by_cases hi : i < q.length - k
  · rw [List.getElem?_take_of_lt hi]
    have h1 := h (k + i) q[k + i] (by simp)
    have e : (f + (k + i)) % n = i := by
      rw [show f + (k + i) = n + i by omega, Nat.add_mod_left, Nat.mod_eq_of_lt (by omega)]
    rw [e] at h1
    rw [h1, List.getElem?_eq_getElem (by omega)]
  · rw [List.getElem?_eq_none (by rw [List.length_take]; omega), List.getElem?_eq_none (by omega)]

/-- A copy into a row that is known whole, as a step of a region that draws: no other block turns. -/
theorem step_copy_but {P : Program} {ops : Array Oper} {o : Oper} {a : Act} {w : World} {K : Act → World → Prop} {Q : Exit → Act → World → Prop} {E : Prop} (hgd : o.guard = none) (d s : Operand) (dT sT : TypeId)
    (ho : o.op = .call { callee := .builtin .copy, args := #[d, s], argTypes := #[dT, sT] }) (elem : TypeId) (hu : P.underlying dT = some (.slice elem)) (hsz : (P.info? elem).map (·.size) = some 1)
    (dp sp : Option Addr) (dLen dCap sLen sCap : Nat) (hd : a.eval d = .slice dp dLen dCap) (hs : a.eval s = .slice sp sLen sCap)
    (g off : Nat) (cur : List Value) (t : TypeId) (hg : w.heap[g]? = some (.cells cur.toArray t (0, 0))) (cs : List Value) (hn : cs.length = Nat.min sLen dLen)
    (hpos : 0 < cs.length → dp = some ⟨g, off, none⟩ ∧ ∃ ad, sp = some ad ∧ ∀ j v, cs[j]? = some v → w.cell? (ad.add j) = some v)
    (hfit : off + cs.length ≤ cur.length) (h1 : ∀ v ∈ cs, v.oneCell' = true)
    (h : ∀ w', Hid (w'.heap[g]? = some (.cells (splice cur off cs).toArray t (0, 0))) → But [g] w w' → K (a.put o.dst (goInt cs.length)) w') :
    if Region.wanted o (yielded ops a.tmps) = true then Oper.wp P o a w K Q else E := by
  have hw : Region.wanted o (yielded ops a.tmps) = true := by simp [Region.wanted, hgd]
  rw [if_pos hw]
  by_cases h0 : cs.length = 0
  · obtain rfl : cs = [] := List.eq_nil_of_length_eq_zero h0
    have hrun := run_copy_none (P := P) w dT sT o.type elem dp sp dLen dCap sLen sCap hu hsz (by simpa using hn.symm)
    unfold Oper.wp
    simp [execOp, ho, resolve, invoke, builtin, hd, hs, hrun, Result.andThen]
    exact h w (show _ = _ by simpa [splice] using hg) (But.refl _ _)
  · obtain ⟨rfl, ad, rfl, hsrc⟩ := hpos (by omega)
    have hrun := run_copy_row (P := P) w dT sT o.type elem g off dLen dCap ad sLen sCap cur.toArray t cs hu hsz hg hn hsrc (by simpa using hfit) h1
    unfold Oper.wp
    simp [execOp, ho, resolve, invoke, builtin, hd, hs, hrun, Result.andThen]
    exact h _ (show _ = _ by simpa [splice] using setRow_heap w g _ _ t _ hg) ⟨rfl, rfl, rfl, by simp [World.setRow], fun k _ hk => setRow_other w g k _ (by simpa using hk)⟩

section
variable {w : World} {B G n : Nat} {q : List Int}

theorem copy_nothing (h : RQ w B G n []) (v : Value) :
    Calls Try.prog 34 #[.pointer (some ⟨B, 0, none⟩), v] w fun e w' => (∃ r, e = .returned r) ∧ w' = w := by
  go_enter Try.func34, Try.ntmps34
  go_wp2_with (first
    | (go_at_call 11; refine (len_q h).mono ?_; rintro e w' ⟨rfl, hw⟩; subst w'))
  refine bodyPost_ret (results_none rfl _ _ _) rfl ?_
  exact ⟨⟨_, rfl⟩, rfl⟩

set_option maxHeartbeats 2000000 in
theorem copy_to (h : RQ w B G n q) (hq : 0 < q.length) (T m cap : Nat) (zs : List Int) (hz : RowAt w T zs) (hm : q.length ≤ m) (hmz : zs.length = m) (hmc : m ≤ cap) (hcap : cap ≤ 4096) (hB : T ≠ B) (hG : T ≠ G) :
    Calls Try.prog 34 #[.pointer (some ⟨B, 0, none⟩), .slice (some ⟨T, 0, none⟩) m cap] w fun e w' => (∃ r, e = .returned r) ∧ RowAt w' T (q ++ zs.drop q.length) ∧ But [T] w w' := by
  have hlen := len_q h
  obtain ⟨f, xs, h, k⟩ := h
  have h1 := h.cn
  have h2 := h.le
  have h3 := h.fn
  have c0 := h.c0
  have c1 := h.c1
  have c2 := h.c2
  obtain ⟨E, hE⟩ : ∃ E : Nat, E = min (f + q.length) n := ⟨_, rfl⟩
  have hE1 : ((E : Nat) : Int) = min ((f : Int) + (q.length : Int)) (n : Int) := by omega
  generalize hc : q.length = c at *
  have hc0 : (0 : Int) < (c : Int) := by omega
  go_enter Try.func34, Try.ntmps34
  go_wp2_with (first
    | (go_at_call 11; refine hlen.mono ?_; rintro e w' ⟨rfl, hw⟩; subst w'))
  have he : (if (n : Int) < (f : Int) + (c : Int) then (n : Int) else (f : Int) + (c : Int)) = (E : Int) := by omega
  have hEf : f < E := by omega
  have hEn : E ≤ n := by omega
  have hEf' : (f : Int) ≤ (E : Int) := by omega
  have hEn' : (E : Int) ≤ (n : Int) := by omega
  obtain ⟨X1, hX1⟩ : ∃ X1, Hid (X1 = (q.take (E - f)).map (Value.int .i64)) := ⟨_, rfl⟩
  obtain ⟨X2, hX2⟩ : ∃ X2, Hid (X2 = (q.drop (E - f)).map (Value.int .i64)) := ⟨_, rfl⟩
  have l1 : X1.length = E - f := by rw [hX1.out]; simp; omega
  have l2 : X2.length = c - (E - f) := by rw [hX2.out]; simp; omega
  clear hE1
  have HE : Hid (E = min (f + c) n) := hE
  clear hE
  have hnf : ¬ n = f := by omega
  have m1 : X1.length = Nat.min (E - f) m := by rw [l1]; exact (Nat.min_eq_left (by omega)).symm
  have o1 : ∀ v ∈ X1, v.oneCell' = true := by rw [hX1.out]; intro v hv; obtain ⟨x, _, rfl⟩ := List.mem_map.1 hv; rfl
  have o2 : ∀ v ∈ X2, v.oneCell' = true := by rw [hX2.out]; intro v hv; obtain ⟨x, _, rfl⟩ := List.mem_map.1 hv; rfl
  have s1 : ∀ W, RM W B G n f c xs → ∀ j v, X1[j]? = some v → W.cell? ((⟨G, f, none⟩ : Addr).add j) = some v := by
    intro W hW j v hv
    rw [hX1.out, List.getElem?_map, ← holds_first k (by omega) (by omega)] at hv
    obtain ⟨x, hx, rfl⟩ := Option.map_eq_some_iff.1 hv
    have hj : j < E - f := by
      have := (List.getElem?_eq_some_iff.1 hx).1
      rw [List.length_take] at this
      omega
    rw [List.getElem?_take_of_lt hj, List.getElem?_drop] at hx
    rw [WideShapes.add_plain]
    exact hW.x hx
  have s2 : c - (E - f) ≠ 0 → ∀ W, RM W B G n f c xs → ∀ j v, X2[j]? = some v → W.cell? ((⟨G, 0, none⟩ : Addr).add j) = some v := by
    intro hne W hW j v hv
    have hE := HE.out
    have e := holds_second (k := E - f) k h.len h.fn (by omega) (by omega)
    rw [hX2.out, List.getElem?_map, ← e] at hv
    obtain ⟨x, hx, rfl⟩ := Option.map_eq_some_iff.1 hv
    have hj : j < q.length - (E - f) := by
      have := (List.getElem?_eq_some_iff.1 hx).1
      rw [List.length_take] at this
      omega
    rw [List.getElem?_take_of_lt hj] at hx
    rw [WideShapes.add_plain, Nat.zero_add]
    exact hW.x hx
  have S1 : Hid (∀ W, RM W B G n f c xs → ∀ j v, X1[j]? = some v → W.cell? ((⟨G, f, none⟩ : Addr).add j) = some v) := s1
  have S2 : Hid (c - (E - f) ≠ 0 → ∀ W, RM W B G n f c xs → ∀ j v, X2[j]? = some v → W.cell? ((⟨G, 0, none⟩ : Addr).add j) = some v) := s2
  have O1 : Hid (∀ v ∈ X1, v.oneCell' = true) := o1
  have O2 : Hid (∀ v ∈ X2, v.oneCell' = true) := o2
  obtain ⟨d, hd⟩ : ∃ d : Nat, d = E - f := ⟨_, rfl⟩
  have hdl : X1.length = d := by omega
  have hdm : d ≤ m := by omega
  have hdc : d ≤ c := by omega
  have hdm' : (d : Int) ≤ (m : Int) := by omega
  have hdc' : (d : Int) ≤ (c : Int) := by omega
  obtain ⟨g, hg⟩ : ∃ g : Nat, g = c - d := ⟨_, rfl⟩
  have hsub : (c : Int) - (d : Int) = (g : Int) := by omega
  have hwg : IntKind.i64.wrap ((c : Int) - (d : Int)) = (g : Int) := by rw [IntKind.wrap_i64]; omega
  have hwg2 : IntKind.i64.wrap (g : Int) = (g : Int) := by rw [IntKind.wrap_i64]; omega
  have hgn : g ≤ n := by omega
  have hgn' : (g : Int) ≤ (n : Int) := by omega
  have L2 : Hid (X2.length = g) := by unfold Hid; omega
  have M1 : Hid (X1.length = Nat.min (E - f) m) := m1
  have M2 : Hid (X2.length = Nat.min g (m - d)) := by unfold Hid; show X2.length = min g (m - d); omega
  have Z1 : Hid (0 + X1.length ≤ (zs.map (Value.int .i64)).length) := by unfold Hid; rw [l1, List.length_map]; omega
  have Z2 : Hid (d + X2.length ≤ (splice (zs.map (Value.int .i64)) 0 X1).length) := by
    unfold Hid
    rw [length_splice _ _ _ Z1.out, List.length_map]
    omega
  have FIN : Hid (splice (splice (zs.map (Value.int .i64)) 0 X1) d X2 = (q ++ zs.drop c).map (Value.int .i64)) := by
    unfold Hid
    have e1 : X1 ++ X2 = q.map (Value.int .i64) := by rw [hX1.out, hX2.out, ← List.map_append, List.take_append_drop]
    have e2 : splice (zs.map (Value.int .i64)) 0 X1 = X1 ++ (zs.map (Value.int .i64)).drop d := by simp [splice, hdl]
    rw [e2, splice, ← hdl, List.take_left, List.drop_append, hdl, show d + X2.length - d = X2.length by omega, List.drop_eq_nil_of_le (by omega), List.nil_append, List.drop_drop, ← List.append_assoc, e1, List.map_append, List.map_drop]
    congr 2
    omega
  have HD : Hid (d = E - f) := hd
  have HGG : Hid (g = c - d) := hg
  clear s1 s2 o1 o2 l1 l2 m1 hmz hc k hlen hd hg
  go_region
  clear he
  go_wp2_with fail
  go_region_law (refine step_copy_but rfl (.tmp 24) (.tmp 34) 32 32 rfl 3 Try.underlying32 size3 _ _ _ _ _ _ rfl rfl T 0 (zs.map (Value.int .i64)) 3 hz X1 M1.out (fun _ => ⟨rfl, ⟨G, f, none⟩, rfl, S1.out _ h.drew.drew⟩) Z1.out O1.out ?_; intro w2 hg2 hb2)
  all_goals
    have h4 : RM w2 B G n f c xs := h.drew.drew.but hb2 (by simpa using Ne.symm hB) (by simpa using Ne.symm hG)
    have d0 := h4.c0
    have d2 := h4.c2
    go_wp2_with fail
    go_region_law (refine step_copy_but rfl (.tmp 38) (.tmp 49) 32 32 rfl 3 Try.underlying32 size3 _ _ _ _ _ _ rfl rfl T d (splice (zs.map (Value.int .i64)) 0 X1) 3 hg2.out X2 M2.out (fun hp => ⟨by have := L2.out; have := HGG.out; first | exact if_neg (by omega) | rfl | (exfalso; omega), ⟨G, 0, none⟩, rfl, S2.out (by have := L2.out; have := HD.out; have := HGG.out; omega) _ h4.drew⟩) Z2.out O2.out ?_; intro w3 hg3 hb3)
    all_goals
      go_wp2_with fail
      all_goals
        refine bodyPost_end (results_none rfl _ _ _) rfl ⟨⟨_, rfl⟩, ?_, (((But.refl _ w).drew.drew).trans hb2).drew.trans hb3⟩
        have := hg3.out
        rw [FIN.out] at this
        exact this
end

end Go.Proofs.Ytfobfkidpdlkeaa
