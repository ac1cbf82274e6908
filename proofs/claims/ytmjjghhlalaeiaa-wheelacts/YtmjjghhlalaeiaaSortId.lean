/- Ids of the call's own, put in order by the closure that order tells. -/
import Derived.Test.YtmjjghhlalaeiaaOrder
import Derived.Test.YtmjjghhlalaeiaaShelfF
import Derived.Test.YtmjjghhlalaeiaaTick
namespace Go.Proofs.Ytmjjghhlalaeiaa
open Go.RowKit Go.Sort

/-- One comes ahead of another one: by times, of one time by ids. -/
def ltU (ut : Nat → Int) (a b : Nat) : Bool := decide (ut a < ut b ∨ (ut a = ut b ∧ a < b))
def cfU (ut : Nat → Int) (N : Nat) (x y : Fin N) : Int := orI (Lib.compareInt (ut x.1) (ut y.1)) (Lib.compareInt (x.1 : Int) (y.1 : Int))
theorem ltOf_cfU (ut : Nat → Int) (N : Nat) (x y : Fin N) : ltOf (cfU ut N) x y = ltU ut x.1 y.1 := by
  unfold ltOf cfU ltU orI Lib.compareInt
  by_cases h1 : ut x.1 < ut y.1
  · simp [h1]
  · by_cases h2 : ut y.1 < ut x.1
    · have h3 : ut x.1 ≠ ut y.1 := by omega
      simp [h1, h2, h3]
    · have h3 : ut x.1 = ut y.1 := by omega
      rw [if_neg h1, if_neg h2]
      simp only [h3, if_true]
      by_cases h4 : (x.1 : Int) < (y.1 : Int)
      · have h5 : x.1 < y.1 := by omega
        rw [if_pos h4]
        simp [h5]
      · have h5 : ¬ x.1 < y.1 := by omega
        rw [if_neg h4]
        split <;> simp [h5]
theorem swoU (ut : Nat → Int) (N : Nat) : SWO (ltOf (cfU ut N)) where
  irrefl x := by rw [ltOf_cfU]; unfold ltU; simp
  trans x y z h1 h2 := by rw [ltOf_cfU] at *; unfold ltU at *; simp at *; omega
  ntrans x y z h1 h2 := by rw [ltOf_cfU] at *; unfold ltU at *; simp at *; omega
theorem totU (ut : Nat → Int) (N : Nat) (x y : Fin N) (h1 : ltOf (cfU ut N) x y = false) (h2 : ltOf (cfU ut N) y x = false) : x = y := by
  rw [ltOf_cfU] at *
  unfold ltU at *
  simp at *
  exact Fin.ext (by omega)

def encF (N : Nat) (x : Fin N) : Value := .int .i64 ((x.1 : Nat) : Int)
theorem putCells_enc {N : Nat} [Inhabited (Fin N)] (off : Nat) (d : Array (Fin N)) (c : Array Value) : putCells (encF N) off d c = putCells (Value.int .i64) off (d.map (fun x => ((x.1 : Nat) : Int))) c := by
  unfold putCells
  congr 1
  funext k x
  rw [Array.size_map]
  by_cases h : off ≤ k ∧ k < off + d.size
  · rw [if_pos h, if_pos h]
    have hk : k - off < d.size := by omega
    rw [getElem!_pos d (k - off) hk, getElem!_pos (d.map (fun x => ((x.1 : Nat) : Int))) (k - off) (by simpa using hk)]
    simp [encF]
  · rw [if_neg h, if_neg h]
theorem putRow_enc {N : Nat} [Inhabited (Fin N)] (w : World) (blk off : Nat) (d : Array (Fin N)) : putRow (encF N) w blk off d = putRow (Value.int .i64) w blk off (d.map (fun x => ((x.1 : Nat) : Int))) := by
  unfold putRow
  congr 1
  funext c
  exact putCells_enc off d c

/-- Ids as members of what there is. -/
def finL (N : Nat) (q : List Nat) (h : ∀ t ∈ q, t < N) : List (Fin N) := q.attach.map (fun x => ⟨x.1, h x.1 x.2⟩)
theorem finL_val {N : Nat} {q : List Nat} {h : ∀ t ∈ q, t < N} : (finL N q h).map (fun x => x.1) = q := by
  unfold finL
  rw [List.map_map]
  have : ((fun x : Fin N => x.1) ∘ fun x : { x // x ∈ q } => (⟨x.1, h x.1 x.2⟩ : Fin N)) = fun x => x.1 := rfl
  rw [this]
  simp
theorem finL_len {N : Nat} {q : List Nat} {h : ∀ t ∈ q, t < N} : (finL N q h).length = q.length := by unfold finL; simp

theorem cell_sort {w : World} {g n : Nat} {d : Array Int} {os : Array Obj} {p : Addr} {v : Value} (h : w.cell? p = some v) (hp : p.block ≠ g) : (grow (putRow (Value.int .i64) (Sort.ahead w n) g 0 d) os).cell? p = some v :=
  (grownBy_sortedI (w := w) (g := g) (n := n) (os := os) d).cell h (fun e => hp (by cases e; rfl))

/-- SortFunc of a row of ids of the call's own. -/
theorem sortf_row {W : World} {base X B G N c : Nat} {v : Value} {q : List Nat} {ut : Nat → Int} (h : RowI W base v (ints q)) (hb : base ≤ W.heap.size) (hN : 1 ≤ N) (hq : ∀ t ∈ q, t < N) (hl : q.length ≤ 4096)
    (hx : W.cell? ⟨X, 0, none⟩ = some (.pointer (some ⟨B, 0, none⟩))) (h1 : W.cell? ⟨B, 1, none⟩ = some (.slice (some ⟨G, 0, none⟩) N c)) (hg : ∀ t, t < N → W.cell? ⟨G, t, none⟩ = some (.int .i64 (ut t)))
    (nX : v.ownBlock ≠ some X) (nB : v.ownBlock ≠ some B) (nG : v.ownBlock ≠ some G) :
    Calls Try.prog 38 #[v, .func (.func 53) #[] #[.pointer (some ⟨X, 0, none⟩)]] W fun e w' => e = .returned (.tuple #[]) ∧ ∃ r : List Nat, r.Perm q ∧ r.Pairwise (fun a b => ltU ut b a = false) ∧ RowI w' base v (ints r) ∧ W.grownBy w' v.ownBlock := by
  rcases h.2 with ⟨rfl, h0⟩ | ⟨g, cap, cur, rfl, hgb, hblk, hc, hm, hs, ht⟩
  · have e : q = [] := by rw [ints_len] at h0; exact List.length_eq_zero_iff.1 h0
    subst e
    refine (Try.slices_SortFunc_none (α := Nat) none 0 _ W).mono ?_
    rintro e w' ⟨rfl, rfl⟩
    exact ⟨rfl, [], List.Perm.refl _, List.Pairwise.nil, h, ⟨rfl, rfl, rfl, Nat.le_refl _, fun _ _ _ => rfl⟩⟩
  · have hlt := (Array.getElem?_eq_some_iff.1 hblk).1
    have nX' : X ≠ g := fun e => nX (by rw [e]; rfl)
    have nB' : B ≠ g := fun e => nB (by rw [e]; rfl)
    have nG' : G ≠ g := fun e => nG (by rw [e]; rfl)
    haveI : Inhabited (Fin N) := ⟨⟨0, by omega⟩⟩
    have hd : ((finL N q hq).toArray.map (fun x => ((x.1 : Nat) : Int))) = (ints q).toArray := by
      rw [List.map_toArray]
      congr 1
      have e : (finL N q hq).map (fun x => ((x.1 : Nat) : Int)) = ((finL N q hq).map (fun x => x.1)).map (fun x : Nat => (x : Int)) := by rw [List.map_map]; rfl
      rw [e, finL_val]
      rfl
    have hH : Holds (encF N) W g 0 (finL N q hq).toArray := by
      have h0 := holds_of_blockI (ss := ints q) hblk (by simpa using ht)
      intro j hj
      have hj' : j < (ints q).toArray.size := by rw [← hd, Array.size_map]; exact hj
      obtain ⟨a1, a2⟩ := h0 j hj'
      refine ⟨?_, a2⟩
      rw [a1, getElem!_pos _ j hj', getElem!_pos _ j hj]
      congr 1
      have : (ints q).toArray[j] = ((finL N q hq).toArray.map (fun x => ((x.1 : Nat) : Int)))[j]'(by rw [Array.size_map]; exact hj) := by congr 1; exact hd.symm
      rw [this]
      simp [encF]
    have hcmp : CmpLays1 Try.prog 53 #[.pointer (some ⟨X, 0, none⟩)] (encF N) (cfU ut N) g 0 (finL N q hq).toArray.size W := by
      intro m os dk hdk x y
      unfold sortWorld
      rw [putRow_enc]
      exact order_at x.2 y.2 (cell_sort hx nX') (cell_sort h1 nB') (cell_sort (hg x.1 x.2) nG') (cell_sort (hg y.1 y.2) nG')
    have eg : ∀ args w, (callFunc 53 args).run Try.prog w = .ok (.enter 53 args) w := enters_of Try.func53 (by kernel_rfl) rfl
    have hsz : (finL N q hq).toArray.size = q.length := by simp [finL_len]
    have hS := Try.slices_SortFunc_total (encF N) (fun _ => rfl) (cfU ut N) (swoU ut N) 53 #[.pointer (some ⟨X, 0, none⟩)] g 0 cap (finL N q hq).toArray W eg hcmp hH hlt (by rw [hsz]; omega) (totU ut N)
    rw [hsz] at hS
    rw [ints_len]
    refine hS.mono ?_
    rintro e w' ⟨rfl, n, os, rfl⟩
    refine ⟨rfl, (((finL N q hq).mergeSort fun x y => !(ltOf (cfU ut N)) y x).map (fun x => x.1)), ?_, ?_, ?_, ?_⟩
    · have := (List.mergeSort_perm (finL N q hq) (fun x y => !(ltOf (cfU ut N)) y x)).map (fun x => x.1)
      rwa [finL_val] at this
    · rw [List.pairwise_map]
      have := List.pairwise_mergeSort (le := fun x y => !(ltOf (cfU ut N)) y x) (fun a b c h1 h2 => by simp at *; exact (swoU ut N).ntrans c b a h2 h1) (fun a b => by
        simp
        cases hab : ltOf (cfU ut N) b a with
        | false => exact .inl rfl
        | true =>
          right
          cases hba : ltOf (cfU ut N) a b with
          | false => rfl
          | true =>
            have h1 := (swoU ut N).trans _ _ _ hab hba
            rw [(swoU ut N).irrefl] at h1
            cases h1) (finL N q hq)
      exact this.imp (fun h => by rw [← ltOf_cfU ut N]; simpa using h)
    · unfold sortWorld
      rw [putRow_enc]
      have hl2 : (ints (((finL N q hq).mergeSort fun x y => !(ltOf (cfU ut N)) y x).map (fun x => x.1))).length = (ints q).length := by
        rw [ints_len, ints_len, List.length_map, List.length_mergeSort, finL_len]
      have e1 : (((finL N q hq).toArray.toList.mergeSort fun x y => !(ltOf (cfU ut N)) y x).toArray.map (fun x => ((x.1 : Nat) : Int))) = (ints (((finL N q hq).mergeSort fun x y => !(ltOf (cfU ut N)) y x).map (fun x => x.1))).toArray := by
        rw [List.map_toArray]
        congr 1
        unfold ints
        rw [List.map_map]
        rfl
      rw [e1]
      have := ownsRow_sortedI (n := n) (os := os) hl2 hgb hblk hc hm hs
      unfold RowI
      rw [hl2]
      rw [ints_len] at this ⊢
      exact this
    · unfold sortWorld
      rw [putRow_enc]
      exact grownBy_sortedI _
end Go.Proofs.Ytmjjghhlalaeiaa
