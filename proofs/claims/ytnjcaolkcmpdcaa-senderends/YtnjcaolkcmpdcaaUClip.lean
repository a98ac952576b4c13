/- The gaps of claims that lie within a block: pure. -/
import Derived.Test.YtnjcaolkcmpdcaaUSnd
import Derived.Test.YtnjcaolkcmpdcaaUIn
namespace Go.Proofs.Ytnjcaolkcmpdcaa
open Go.RowKit
set_option linter.unusedVariables false
/-- claims within a block of N bytes. -/
def InN (N : Nat) (G : List (Int × Int)) : Prop := ∀ c ∈ G, 0 ≤ c.1 ∧ c.1 < (N : Int) ∧ 0 ≤ c.2 ∧ c.1 + c.2 ≤ (N : Int)
theorem atG_in {N : Nat} {G : List (Int × Int)} (h : InN N G) {k : Nat} (hk : k ≤ G.length) : 0 ≤ atG G k ∧ atG G k ≤ (N : Int) := by
  unfold atG
  split
  · omega
  · have hk1 : k - 1 < G.length := by omega
    rw [List.getD_eq_getElem?_getD, List.getElem?_eq_getElem hk1]
    have := h _ (List.getElem_mem hk1)
    simp only [Option.getD_some]
    omega
theorem gpG_in {N : Nat} {G : List (Int × Int)} (h : InN N G) : ∀ {k : Nat}, k ≤ G.length → ∀ r ∈ gpG G k, 1 ≤ r.2 ∧ r.1 + r.2 ≤ N
  | 0, _, r, hr => absurd hr List.not_mem_nil
  | k + 1, hk, r, hr => by
    rw [gpG_succ (by omega), List.mem_append] at hr
    rcases hr with hr | hr
    · exact gpG_in h (by omega) r hr
    · split at hr
      · rename_i hlt
        simp only [List.mem_singleton] at hr
        subst hr
        have h1 := atG_in h (k := k) (by omega)
        have h2 := h _ (List.getElem_mem (show k < G.length by omega))
        constructor
        · show 1 ≤ (G[k].1 - atG G k).toNat
          omega
        · show (atG G k).toNat + (G[k].1 - atG G k).toNat ≤ N
          omega
      · exact absurd hr List.not_mem_nil
theorem gpF_in {N : Nat} {G : List (Int × Int)} (h : InN N G) : ∀ r ∈ gpF G N, 1 ≤ r.2 ∧ r.1 + r.2 ≤ N := by
  intro r hr
  unfold gpF at hr
  rw [List.mem_append] at hr
  rcases hr with hr | hr
  · exact gpG_in h (Nat.le_refl _) r hr
  · split at hr
    · simp only [List.mem_singleton] at hr
      subst hr
      have h1 := atG_in h (Nat.le_refl G.length)
      constructor
      · show 1 ≤ ((N : Int) - atG G G.length).toNat
        omega
      · show (atG G G.length).toNat + ((N : Int) - atG G G.length).toNat ≤ N
        omega
    · exact absurd hr List.not_mem_nil
theorem gpF_len (G : List (Int × Int)) (N : Nat) : (gpF G N).length ≤ G.length + 1 := by
  have := gpG_len G G.length
  unfold gpF
  rw [List.length_append]
  split <;> simp <;> omega
theorem gpo_in {N : Nat} {G : List (Int × Int)} (h : InN N G) (hN : N ≤ 512) (hl : G.length ≤ 600) : GpO G N := by
  refine ⟨fun k hk => ?_, fun k hk => ?_, hN, hl⟩
  · have := atG_in h hk
    omega
  · have := h _ (List.getElem_mem hk)
    refine ⟨by omega, by omega, ?_⟩
    unfold in64
    omega
theorem rows_in {N : Nat} {G : List (Int × Int)} (h : InN N G) (hN : N ≤ 512) (hl : G.length ≤ 99) : RowsO (gpF G N) N :=
  ⟨gpF_in h, hN, by have := gpF_len G N; omega⟩
theorem clip_in {N : Nat} {l : List (Int × Int)} (h : ∀ c ∈ l, 0 ≤ c.1 ∧ 0 ≤ c.2) : InN N (clip N l) := by
  intro c hc
  unfold clip at hc
  obtain ⟨x, hx, rfl⟩ := List.mem_map.1 hc
  obtain ⟨hx1, hx2⟩ := List.mem_filter.1 hx
  have := h x hx1
  have hx2 : x.1 < (N : Int) := by simpa using hx2
  refine ⟨this.1, hx2, ?_, ?_⟩
  · show 0 ≤ min x.2 ((N : Int) - x.1)
    omega
  · show x.1 + min x.2 ((N : Int) - x.1) ≤ N
    omega
theorem clsOk_mem (u : Int) : ∀ (l : List (Int × Int)) (least : Int), 0 ≤ least → clsOk u least l = true → ∀ c ∈ l, least ≤ c.1 ∧ 1 ≤ c.2 ∧ c.1 + c.2 ≤ u
  | [], _, _, _ => fun c hc => absurd hc List.not_mem_nil
  | c :: r, least, h0, h => by
    simp only [clsOk, Bool.and_eq_true, Bool.not_eq_true', decide_eq_false_iff_not] at h
    obtain ⟨h1, h2, h3⟩ := h
    have h4 := inB_of h2
    have ih := clsOk_mem u r (c.1 + c.2 + 1) (by omega) h3
    intro y hy
    rcases List.mem_cons.1 hy with rfl | hy
    · omega
    · have := ih y hy
      omega
end Go.Proofs.Ytnjcaolkcmpdcaa
