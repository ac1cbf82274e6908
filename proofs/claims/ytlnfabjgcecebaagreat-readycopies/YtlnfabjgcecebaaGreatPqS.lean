/- The program's queue tells what it must. -/
import Derived.Test.YtlnfabjgcecebaaGreatPqC
import Derived.Test.YtlnfabjgcecebaaGreatPqD
namespace Go.Proofs.YtlnfabjgcecebaaGreat.Pq
open Go Go.RowKit Go.Proofs.YtlnfabjgcecebaaGreat.Str Go.Proofs.YtlnfabjgcecebaaGreat.Rd
open Go.Proofs.YtlnfabjgcecebaaGreat.Hp (Step Disj HQ)

theorem few_now {K : Nat} {σ : Qs} (h : Few K σ) (hK : K ≤ 1000) : -9223372036854775808 ≤ σ.now ∧ σ.now ≤ 9223372036854775807 := by
  obtain ⟨n0, n1, -, -⟩ := h.sml hK
  omega
theorem side : Side PQ where
  mem := by
    rintro w B T N σ ⟨G, H, TH, rfl, h⟩
    simp
  lt := by
    rintro w B T N σ ⟨G, H, TH, rfl, h⟩
    exact h.lt
  but := by
    rintro w w' B T S N σ ⟨G, H, TH, rfl, h⟩ hb hd
    exact ⟨G, H, TH, rfl, h.but hb hd⟩
  len := by
    rintro w B T N σ ⟨G, H, TH, rfl, h⟩
    exact h.len
  nil := fun a w h => new_none a w h
  made := fun N w h1 h2 => new_some N w h1 h2
  join := by
    rintro w B T N K σ ⟨G, H, TH, rfl, h⟩ hF hK id t
    refine (join_any h id t).mono ?_
    rintro e w' ⟨rfl, TH', h', s⟩
    exact ⟨rfl, _, ⟨G, H, TH', rfl, h'⟩, s⟩
  pick := by
    rintro w B T N K σ ⟨G, H, TH, rfl, h⟩ hF hK
    refine (pick_any h hF hK).mono ?_
    rintro e w' ⟨rfl, TH', h', s⟩
    exact ⟨rfl, _, ⟨G, H, TH', rfl, h'⟩, s⟩
  take := by
    rintro w B T N K σ ⟨G, H, TH, rfl, h⟩ hF hK id
    refine (take_any h id).mono ?_
    rintro e w' ⟨rfl, TH', h', s⟩
    exact ⟨rfl, _, ⟨G, H, TH', rfl, h'⟩, s⟩
  back := by
    rintro w B T N K σ ⟨G, H, TH, rfl, h⟩ hF hK id
    obtain ⟨n0, n1⟩ := few_now hF hK
    refine (back_any h id n0 n1).mono ?_
    rintro e w' ⟨rfl, TH', h', s⟩
    exact ⟨rfl, _, ⟨G, H, TH', rfl, h'⟩, s⟩
  block := by
    rintro w B T N K σ ⟨G, H, TH, rfl, h⟩ hF hK id
    refine (block_any h id).mono ?_
    rintro e w' ⟨rfl, h', s⟩
    exact ⟨rfl, _, ⟨G, H, TH, rfl, h'⟩, s⟩
  wake := by
    rintro w B T N K σ ⟨G, H, TH, rfl, h⟩ hF hK id
    obtain ⟨n0, n1⟩ := few_now hF hK
    refine (wake_any h id n0 n1).mono ?_
    rintro e w' ⟨rfl, TH', h', s⟩
    exact ⟨rfl, _, ⟨G, H, TH', rfl, h'⟩, s⟩
  resume := by
    rintro w B T N K σ ⟨G, H, TH, rfl, h⟩ hF hK id
    refine (resume_any h id).mono ?_
    rintro e w' ⟨rfl, h', s⟩
    exact ⟨rfl, _, ⟨G, H, TH, rfl, h'⟩, s⟩
  drop := by
    rintro w B T N K σ ⟨G, H, TH, rfl, h⟩ hF hK id
    refine (drop_any h id).mono ?_
    rintro e w' ⟨rfl, TH', h', s⟩
    exact ⟨rfl, _, ⟨G, H, TH', rfl, h'⟩, s⟩
  lower := by
    rintro w B T N K σ ⟨G, H, TH, rfl, h⟩ hF hK
    refine (lower_any h hF hK).mono ?_
    rintro e w' ⟨rfl, TH', h', s⟩
    exact ⟨rfl, _, ⟨G, H, TH', rfl, h'⟩, s⟩
  state := by
    rintro w B T N σ ⟨G, H, TH, rfl, h⟩ id
    exact state_any h id
  pass := by
    rintro w B T N K σ ⟨G, H, TH, rfl, h⟩ hF id
    exact pass_any h id
  picks := by
    rintro w B T N K σ ⟨G, H, TH, rfl, h⟩ hF id
    exact picks_any h id
  now := by
    rintro w B T N σ ⟨G, H, TH, rfl, h⟩
    exact now_any h
  waiting := by
    rintro w B T N σ ⟨G, H, TH, rfl, h⟩
    exact waiting_any h
  sound := by
    rintro w B T N K σ ⟨G, H, TH, rfl, h⟩ hF hK
    exact sound_any h hF hK
  copy := by
    rintro w B T N σ ⟨G, H, TH, rfl, h⟩
    exact copy_any h
end Go.Proofs.YtlnfabjgcecebaaGreat.Pq
