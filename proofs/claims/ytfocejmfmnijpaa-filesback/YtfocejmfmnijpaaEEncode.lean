/- The walk of files.Encode. -/
import Derived.Test.YtfocejmfmnijpaaEPut
import Derived.Test.YtfocejmfmnijpaaFGet
namespace Go.Proofs.Ytfocejmfmnijpaa
open Go.RowKit

/-- A file's bytes, files' bytes. -/
def encFile (x : Fil) : List Nat := encName x.name ++ encBytes x.bytes
def encFiles (L : List Fil) : List Nat := be L.length 2 ++ L.flatMap encFile
def encTake (L : List Fil) (k : Nat) : List Nat := be L.length 2 ++ (L.take k).flatMap encFile
theorem encFile_length (x : Fil) : (encFile x).length = x.name.size + x.bytes.length + 3 := by
  simp only [encFile, encName, encBytes, List.length_append, List.length_cons, nbytes_length, be_length]; omega
theorem encFlat_length (L : List Fil) : (L.flatMap encFile).length = costS L + 3 * L.length := by
  induction L with
  | nil => rfl
  | cons x r ih =>
    rw [List.flatMap_cons, List.length_append, ih, encFile_length]
    simp only [costS, List.map_cons, List.sum_cons, List.length_cons]
    omega
theorem encTake_length (L : List Fil) (k : Nat) : (encTake L k).length ≤ costS L + 3 * L.length + 2 := by
  rw [encTake, List.length_append, be_length, encFlat_length, List.length_take]
  have := cost_le L k
  omega
theorem encTake_succ (L : List Fil) (k : Nat) (h : k < L.length) : encTake L (k + 1) = encTake L k ++ encName L[k].name ++ encBytes L[k].bytes := by
  unfold encTake
  rw [List.take_succ_eq_append_getElem h, List.flatMap_append, ← List.append_assoc, List.append_assoc]
  simp [encFile]
theorem encTake_all (L : List Fil) : encTake L L.length = encFiles L := by unfold encTake encFiles; rw [List.take_length]
theorem encName_byte {s : ByteArray} (h : s.size < 256) : ∀ x ∈ encName s, x < 256 := by
  intro x hx
  rcases List.mem_cons.1 hx with rfl | hx
  · exact h
  · exact nbytes_byte s x hx
theorem encBytes_byte {b : List Nat} (h : ∀ x ∈ b, x < 256) : ∀ x ∈ encBytes b, x < 256 := by
  intro x hx
  rcases List.mem_append.1 hx with hx | hx
  · exact be_byte _ _ x hx
  · exact h x hx
theorem encFiles_byte {L : List Fil} (h1 : ∀ x ∈ L, x.name.size < 256) (h2 : ∀ x ∈ L, ∀ y ∈ x.bytes, y < 256) : ∀ x ∈ encFiles L, x < 256 := by
  intro x hx
  rcases List.mem_append.1 hx with hx | hx
  · exact be_byte _ _ x hx
  · obtain ⟨f, hf, hx⟩ := List.mem_flatMap.1 hx
    rcases List.mem_append.1 hx with hx | hx
    · exact encName_byte (h1 f hf) x hx
    · exact encBytes_byte (h2 f hf) x hx
theorem right_names {L : List Fil} (h : rightB L = true) : ∀ x ∈ L, x.name.size ≤ 24 := by
  intro x hx
  have := right_file h x hx
  simp [fileB, nameB] at this
  omega
theorem ListAt.rowOf {w : World} {a : Option Addr} {L : List Fil} (h : ListAt w a L) : ∀ x ∈ L, ∀ y ∈ x.bytes, y < 256 := by
  intro x hx
  obtain ⟨i, hi, rfl⟩ := List.getElem_of_mem hx
  obtain ⟨b, o, _, hc⟩ := h.2.2 (by omega)
  obtain ⟨_, _, _, _, _, _, h5⟩ := hc i hi
  exact h5.1

set_option maxRecDepth 20000 in
set_option maxHeartbeats 4000000 in
theorem encode_no (w : World) (a : Option Addr) (c : Nat) (L : List Fil) (h : ListAt w a L) (hb : costS L ≤ 4611686018427387904) (hr : rightB L = false) :
    Calls Try.prog 14 #[.agg #[.slice a L.length c]] w fun e w' => e = .returned (.tuple #[.slice none 0 0, .int .i64 150]) ∧ Hid (Below w.heap.size w w') := by
  have HC := check_any _ a c L (h.later ((Below.refl _ w).alloc (Nat.le_refl _) (.cells #[.slice a L.length c] 24))) hb
  rw [check_no hr] at HC
  go_enter Try.func14, Try.ntmps14
  go_wp2_with (go_at_call 26; refine HC.mono ?_; rintro e w1 ⟨rfl, hbw⟩)
  go_ret2
  exact ⟨rfl, ((Below.refl _ w).alloc (Nat.le_refl _) _).trans (hbw.mono (by simp))⟩

set_option maxRecDepth 20000 in
set_option maxHeartbeats 4000000 in
theorem encode_yes (w : World) (a : Option Addr) (c : Nat) (L : List Fil) (h : ListAt w a L) (hr : rightB L = true) :
    Calls Try.prog 14 #[.agg #[.slice a L.length c]] w fun e w' => ∃ a' c', e = .returned (.tuple #[.slice a' (encFiles L).length c', .int .i64 0]) ∧ Hid (Fresh w w' a' c' (encFiles L) ∧ Below w.heap.size w w') := by
  have hov := right_over hr
  have HC := check_any _ a c L (h.later ((Below.refl _ w).alloc (Nat.le_refl _) (.cells #[.slice a L.length c] 24))) (by omega)
  rw [check_yes hr] at HC
  have HL : Hid (ListAt w a L) := h
  have HNM : Hid (∀ x ∈ L, x.name.size ≤ 24) := right_names hr
  have HBY : Hid (∀ x ∈ L, x.bytes.length ≤ 4096) := right_bytes hr
  clear h hr
  go_enter Try.func14, Try.ntmps14
  go_wp2_with (first | (go_at_call 26; refine HC.mono ?_; rintro e w1 ⟨rfl, hbw⟩; have d0 : w1.cell? ⟨w.heap.size, 0, none⟩ = some (.slice a L.length c) := (by rw [hbw.cell (by simp)]; simp); have hb1 : Below w.heap.size w w1 := ((Below.refl _ w).alloc (Nat.le_refl _) _).trans (hbw.mono (by simp)); have hz1 : w.heap.size < w1.heap.size := (by have := hbw.size; simp at this; omega); clear hbw) | (go_at_call 32; refine (fput16_any w1 (w.heap.size + 1) (.slice none 0 0) [] L.length (World.ownsRow_nil _ _ _ _) (by omega) (by omega) (by simp)).mono ?_; rintro e w2 ⟨v2, rfl, hq2⟩; have d2 : w2.cell? ⟨w.heap.size, 0, none⟩ = some (.slice a L.length c) := hq2.out.2.off.cell d0 (by intro h; cases h)))
  go_loopw [5, 20] (fun v i wr => ∃ k : Nat, k ≤ L.length ∧ i = .int .i64 k ∧ Hid (wr.ownsRow (w.heap.size + 1) 5 1 v (encTake L k).length (cells (encTake L k)) ∧ Below w.heap.size w wr ∧ w.heap.size + 1 ≤ wr.heap.size)) (fun _ i _ => L.length - (intOf i).toNat)
  case atStart => exact ⟨0, Nat.zero_le _, rfl, by have := hq2.out.1; simpa [encTake] using this, hb1.trans (hq2.out.2.off.below hb1.size (by intro i h; cases h)), by have := hq2.out.2.off.size; omega⟩
  case round =>
    clear d2 hq2 hb1 hz1 d0 HC
    obtain ⟨k, hk, rfl, hq⟩ := hrel
    by_cases hkl : k < L.length
    · obtain ⟨b, o, rfl, hc⟩ := HL.out.2.2 (by omega)
      obtain ⟨f1, a2, c2, f2, _, _, f5⟩ := hc k hkl
      have g1 := cell_later hq.out.2.1 f1
      have g2 := cell_later hq.out.2.1 f2
      have hn24 := HNM.out _ (List.getElem_mem hkl)
      have hl96 := HBY.out _ (List.getElem_mem hkl)
      have HS : Hid _ := encTake_succ L k hkl
      have htl := encTake_length L k
      have HROW : Hid (Row w a2 L[k].bytes) := f5
      have hi1 : (k : Int) < (L.length : Int) := by omega
      clear hc f1 f2 f5
      generalize L[k] = x at g1 g2 hn24 hl96 HS HROW
      have hvk : ∀ i, Value.ownBlock u5 = some i → i < wr.heap.size := fun i e => (hq.out.1.lt i e).2
      obtain ⟨WA, hWA⟩ : ∃ WA, WA = wr.alloc (.cells #[.string x.name, .slice a2 x.bytes.length c2] 53) := ⟨_, rfl⟩
      have HOA : Hid (WA.ownsRow (w.heap.size + 1) 5 1 u5 (encTake L k).length (cells (encTake L k))) := by rw [hWA]; exact hq.out.1.alloc _
      have HBA : Hid (Below w.heap.size w WA ∧ w.heap.size + 1 ≤ WA.heap.size) := by rw [hWA]; exact ⟨hq.out.2.1.alloc hq.out.2.1.size _, by have := hq.out.2.2; simp; omega⟩
      have c1 : WA.cell? ⟨wr.heap.size, 1, none⟩ = some (.slice a2 x.bytes.length c2) := by rw [hWA, cell_of (heap_alloc_new wr _)]; rfl
      have HPN := putName_any WA (w.heap.size + 1) u5 (encTake L k) x.name HOA.out HBA.out.2 (by omega) (by omega)
      rw [hWA] at HPN
      have HPB : Hid (∀ w3 v3, w3.ownsRow (w.heap.size + 1) 5 1 v3 (encTake L k ++ encName x.name).length (cells (encTake L k ++ encName x.name)) → Below w.heap.size w w3 → w.heap.size + 1 ≤ w3.heap.size → Calls Try.prog 34 #[v3, .slice a2 x.bytes.length c2] w3 fun e w' => More w3 (w.heap.size + 1) v3 (encTake L (k + 1)) e w') := fun w3 v3 h1 h2 h3 => by
        rw [HS.out]
        exact putBytes_any w3 (w.heap.size + 1) v3 _ a2 c2 x.bytes h1 h3 (fun W hW => HROW.out.later (h2.trans (hW.mono (by omega)))) (by omega) (by rw [List.length_append]; simp only [encName, List.length_cons, nbytes_length]; omega)
      have HB3 : Hid (∀ w3 v3, Grew WA w3 u5 v3 → Below w.heap.size w w3 ∧ w.heap.size + 1 ≤ w3.heap.size ∧ w3.cell? ⟨wr.heap.size, 1, none⟩ = some (.slice a2 x.bytes.length c2)) := fun w3 v3 hg => ⟨HBA.out.1.trans (hg.off.below HBA.out.1.size (fun i e => by have := (HOA.out.lt i e).1; omega)), by have := hg.off.size; have := HBA.out.2; omega, hg.off.cell c1 (fun e => by have := hvk _ e; simp at this)⟩
      rw [hWA] at HB3
      clear hWA HOA HBA c1
      go_wp2_with (first | (go_at_call 33; refine HPN.mono ?_; rintro e w3 ⟨v3, rfl, hq3⟩; obtain ⟨b3, z3, c3⟩ := HB3.out w3 v3 hq3.out.2) | (go_at_call 34; refine (HPB.out w3 v3 hq3.out.1 b3 z3).mono ?_; rintro e w4 ⟨v4, rfl, hq4⟩))
      go_roundw
      case rel => exact ⟨k + 1, by omega, by go_num, hq4.out.1, b3.trans (hq4.out.2.off.below b3.size (fun i e => by have := (hq3.out.1.lt i e).1; omega)), by have := hq4.out.2.off.size; omega⟩
      case measure => simp [intOf]; omega
    · obtain rfl : k = L.length := by omega
      have ho := hq.out.1
      rw [encTake_all] at ho
      have htl := encTake_length L L.length
      rw [encTake_all] at htl
      obtain ⟨a', c', rfl, hf⟩ := fresh_of (own_base ho (Nat.le_succ _)) (encFiles_byte (fun x hx => by have := HNM.out x hx; omega) HL.out.rowOf) (by unfold maxLen; omega)
      have HF : Hid (Fresh w _ a' c' (encFiles L) ∧ Below w.heap.size w _) := ⟨hf, hq.out.2.1⟩
      clear ho hf hq
      go_wp2
      go_ret2
      exact ⟨a', c', rfl, HF.out⟩
end Go.Proofs.Ytfocejmfmnijpaa
