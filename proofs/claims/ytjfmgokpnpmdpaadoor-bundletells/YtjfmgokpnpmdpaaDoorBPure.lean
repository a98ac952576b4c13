/- Bundles as data: which may be, their bytes, and what bytes say: pure. -/
import Derived.Test.YtjfmgokpnpmdpaaDoorCIt
import Derived.Test.YtjfmgokpnpmdpaaDoorKSum
namespace Go.Proofs.YtjfmgokpnpmdpaaDoor
open Go.RowKit
set_option linter.unusedVariables false

/-- A bundle. -/
structure Bn where
  src : Int
  dst : Int
  seq : Nat
  cre : Int
  lif : Int
  lim : Int
  hop : Int
  pri : Int
  off : Int
  tot : Int
  pay : List Nat
def inB (x a b : Int) : Bool := decide (a ≤ x) && decide (x ≤ b)
def wayB (b : Bn) : Bool := inB b.src 1 6 && (inB b.dst 1 6 && (decide (0 < b.seq) && (inB b.lim 1 16 && (inB b.hop 0 b.lim && inB b.pri 0 2))))
def timeB (b : Bn) : Bool := inB b.cre 0 1048576 && inB b.lif 1 1048576
def payB (b : Bn) : Bool := inB b.tot 1 400 && (decide (0 < b.pay.length) && inB b.off 0 (b.tot - (b.pay.length : Int)))
/-- may the bundle be? -/
def okB (b : Bn) : Bool := wayB b && (timeB b && payB b)
theorem okB_of {b : Bn} (h : okB b = true) : (1 ≤ b.src ∧ b.src ≤ 6) ∧ (1 ≤ b.dst ∧ b.dst ≤ 6) ∧ 0 < b.seq ∧ (1 ≤ b.lim ∧ b.lim ≤ 16) ∧ (0 ≤ b.hop ∧ b.hop ≤ b.lim) ∧ (0 ≤ b.pri ∧ b.pri ≤ 2) ∧ (0 ≤ b.cre ∧ b.cre ≤ 1048576) ∧ (1 ≤ b.lif ∧ b.lif ≤ 1048576) ∧ (1 ≤ b.tot ∧ b.tot ≤ 400) ∧ 0 < b.pay.length ∧ (0 ≤ b.off ∧ b.off ≤ b.tot - (b.pay.length : Int)) := by
  simp only [okB, wayB, timeB, payB, inB, Bool.and_eq_true, decide_eq_true_eq] at h
  omega

/-- a number as an item. -/
def mkN (n : Nat) : T := mkI 1 n [] []
def numsB (b : Bn) : List Nat := [7, b.dst.toNat, b.src.toNat, b.seq, b.cre.toNat, b.lif.toNat, b.off.toNat, b.tot.toNat, b.pri.toNat, b.lim.toNat]
/-- numbers in a list. -/
def numT (l : List Nat) : T := mkI 4 0 [] (l.map mkN)
def firstB (b : Bn) : List Nat := enc 4 (numT (numsB b))
/-- the three parts of a bundle. -/
def triT (f : List Nat) (h : Nat) (p : List Nat) : T := mkI 4 0 [] [mkI 2 0 f [], mkN h, mkI 2 0 p []]
def itemB (b : Bn) : T := triT (seal16 (firstB b)) b.hop.toNat (seal32 b.pay)
/-- the bytes of a bundle. -/
def encB (b : Bn) : List Nat := enc 4 (itemB b)

theorem okN (V : List Nat → Bool) (m n : Nat) : okT V (m + 1) (mkN n) = true := by simp [mkN, okT, kd_mk, bs_mk, its_mk]
theorem okNums (V : List Nat → Bool) (l : List Nat) (h : l.length ≤ 64) : okT V 4 (numT l) = true := by
  rw [numT, okT]
  simp only [kd_mk, nm_mk, bs_mk, its_mk]
  rw [if_neg (by omega), if_neg (by omega), if_neg (by omega), if_pos trivial]
  simp only [List.length_map, List.length_nil, decide_true, Bool.true_and, Bool.and_eq_true, decide_eq_true_eq, List.all_eq_true]
  refine ⟨h, fun y hy => ?_⟩
  obtain ⟨x, _, rfl⟩ := List.mem_map.1 hy
  exact okN V 2 x
theorem enc_nums (l : List Nat) : enc 4 (numT l) = hd 4 l.length ++ (l.map (hd 0)).flatten := by
  rw [numT, enc]
  simp only [kd_mk, its_mk, List.length_map, List.map_map]
  rw [if_neg (by omega), if_neg (by omega), if_neg (by omega), if_pos trivial]
  rfl
theorem firstB_eq (b : Bn) : firstB b = hd 4 10 ++ ((numsB b).map (hd 0)).flatten := enc_nums _
theorem okTri (V : List Nat → Bool) (f : List Nat) (h : Nat) (p : List Nat) (hf : f.length ≤ 512) (hp : p.length ≤ 512) : okT V 4 (triT f h p) = true := by
  simp [triT, okT, kd_mk, nm_mk, bs_mk, its_mk, hf, hp, mkN]
theorem enc_tri (f : List Nat) (h : Nat) (p : List Nat) : enc 4 (triT f h p) = hd 4 3 ++ (hd 2 f.length ++ f) ++ hd 0 h ++ (hd 2 p.length ++ p) := by
  simp [triT, mkN, enc, kd_mk, nm_mk, bs_mk, its_mk]
theorem firstB_len (b : Bn) : (firstB b).length ≤ 91 := by
  rw [firstB_eq]
  have h := hd_len
  have h0 := h 0 7
  have h1 := h 0 b.dst.toNat
  have h2 := h 0 b.src.toNat
  have h3 := h 0 b.seq
  have h4 := h 0 b.cre.toNat
  have h5 := h 0 b.lif.toNat
  have h6 := h 0 b.off.toNat
  have h7 := h 0 b.tot.toNat
  have h8 := h 0 b.pri.toNat
  have h9 := h 0 b.lim.toNat
  have ha : (hd 4 10).length = 1 := by decide
  simp only [numsB, List.map_cons, List.map_nil, List.flatten_cons, List.flatten_nil, List.length_append, List.length_nil]
  omega
theorem okItem (V : List Nat → Bool) (b : Bn) (h : okB b = true) : okT V 4 (itemB b) = true := by
  have h1 := firstB_len b
  have h2 := okB_of h
  exact okTri V _ _ _ (by rw [seal16_length]; omega) (by rw [seal32_length]; omega)

/-- a number of 64 bits without a sign as one with a sign, as one of 32 bits. -/
def i64 (n : Nat) : Int := if n < 9223372036854775808 then (n : Int) else (n : Int) - 18446744073709551616
def u32 (n : Nat) : Nat := n % 4294967296
/-- the items of a list of such kinds, if bytes are just its bytes. -/
def partsOf (V : List Nat → Bool) (l : List Nat) (K : List Int) : Option (List T) :=
  if (dec V 4 l).1 = 0 ∧ (dec V 4 l).2.2.length = 0 ∧ kd (dec V 4 l).2.1 = 4 ∧ (its (dec V 4 l).2.1).map kd = K then some (its (dec V 4 l).2.1) else none
/-- the fields of a first block. -/
def readB (x : List T) : Bn :=
  ⟨i64 (nm (x.getD 2 .nil)), i64 (nm (x.getD 1 .nil)), u32 (nm (x.getD 3 .nil)), i64 (nm (x.getD 4 .nil)), i64 (nm (x.getD 5 .nil)), i64 (nm (x.getD 9 .nil)), 0, i64 (nm (x.getD 8 .nil)), i64 (nm (x.getD 6 .nil)), i64 (nm (x.getD 7 .nil)), []⟩
/-- the bundle that a first block, a number and a payload say. -/
def joinB (x : List T) (h : Nat) (p : List Nat) : Bn := { readB x with hop := i64 h, pay := p }
def ten1 : List Int := List.replicate 10 1
/-- is that what was sealed by f, with k bytes? -/
def opens (k : Nat) (f : List Nat → List Nat) (l : List Nat) : Bool := decide (k ≤ l.length) && decide (f (l.take (l.length - k)) = l)
def zeroB : Bn := ⟨0, 0, 0, 0, 0, 0, 0, 0, 0, 0, []⟩
/-- what Decode answers behind the three parts. -/
def tailB (V : List Nat → Bool) (l f : List Nat) (h : Nat) (p : List Nat) : Int × Bn :=
  if opens 2 seal16 f && opens 4 seal32 p then
    match partsOf V (f.take (f.length - 2)) ten1 with
    | none => (190, zeroB)
    | some x => if okB (joinB x h (p.take (p.length - 4))) && decide (encB (joinB x h (p.take (p.length - 4))) = l) then (0, joinB x h (p.take (p.length - 4))) else (190, zeroB)
  else (130, zeroB)
/-- what Decode answers. -/
def decBn (V : List Nat → Bool) (l : List Nat) : Int × Bn :=
  match partsOf V l [2, 1, 2] with
  | some [x, y, z] => tailB V l (bs x) (nm y) (bs z)
  | _ => (190, zeroB)

theorem i64_small {n : Nat} (h : n < 9223372036854775808) : i64 n = (n : Int) := if_pos h
theorem hd_byte (t n : Nat) (ht : t < 8) : ∀ x ∈ hd t n, x < 256 := by
  intro y hy
  unfold hd at hy
  repeat' split at hy
  all_goals (simp only [List.mem_cons, List.mem_nil_iff, or_false] at hy)
  · omega
  all_goals
    rcases hy with hy | hy
    · omega
    · exact be_byte _ _ y hy
theorem firstB_byte (b : Bn) : ∀ x ∈ firstB b, x < 256 := by
  rw [firstB_eq]
  intro x hx
  rcases List.mem_append.1 hx with h | h
  · exact hd_byte _ _ (by omega) x h
  · obtain ⟨l, hl, hx⟩ := List.mem_flatten.1 h
    obtain ⟨n, _, rfl⟩ := List.mem_map.1 hl
    exact hd_byte _ _ (by omega) x hx
theorem fitN (m n : Nat) (h : n < 18446744073709551616) : fitT m (mkN n) := by
  cases m with
  | zero => trivial
  | succ m => exact ⟨h, by simp [mkN, bs_mk], by simp [mkN, its_mk]⟩
theorem fitNums (m : Nat) (l : List Nat) (h : ∀ n ∈ l, n < 18446744073709551616) : fitT m (numT l) := by
  cases m with
  | zero => trivial
  | succ m =>
    refine ⟨by simp [numT, nm_mk], by simp [numT, bs_mk], fun y hy => ?_⟩
    simp only [numT, its_mk, List.mem_map] at hy
    obtain ⟨n, hn, rfl⟩ := hy
    exact fitN m n (h n hn)
theorem fitS (m : Nat) (l : List Nat) (h : ∀ x ∈ l, x < 256) : fitT m (mkI 2 0 l []) := by
  cases m with
  | zero => trivial
  | succ m => exact ⟨by simp [nm_mk], by simpa [bs_mk] using h, by simp [its_mk]⟩
theorem fitTri (m : Nat) (f : List Nat) (h : Nat) (p : List Nat) (hf : ∀ x ∈ f, x < 256) (hh : h < 18446744073709551616) (hp : ∀ x ∈ p, x < 256) : fitT m (triT f h p) := by
  cases m with
  | zero => trivial
  | succ m =>
    refine ⟨by simp [triT, nm_mk], by simp [triT, bs_mk], fun y hy => ?_⟩
    simp only [triT, its_mk, List.mem_cons, List.mem_nil_iff, or_false] at hy
    rcases hy with rfl | rfl | rfl
    · exact fitS m f hf
    · exact fitN m h hh
    · exact fitS m p hp
theorem cnN (m n : Nat) : cn (m + 1) (mkN n) = mkN n := rfl
theorem cnNums (l : List Nat) : cn 4 (numT l) = numT l := by
  simp only [numT, cn, kd_mk, nm_mk, bs_mk, its_mk, List.map_map]
  congr 1
theorem cnTri (f : List Nat) (h : Nat) (p : List Nat) : cn 4 (triT f h p) = triT f h p := rfl
theorem parts_nums (V : List Nat → Bool) (l : List Nat) (hl : l.length ≤ 64) (h : ∀ n ∈ l, n < 18446744073709551616) : partsOf V (enc 4 (numT l)) (List.replicate l.length 1) = some (l.map mkN) := by
  have h1 := dec_enc V 4 4 (numT l) [] (okNums V l hl) (Nat.le_refl _) (fitNums 4 l h)
  rw [List.append_nil, cnNums] at h1
  unfold partsOf
  rw [h1]
  have h2 : (l.map mkN).map kd = List.replicate l.length 1 := by
    rw [List.map_map, List.eq_replicate_iff]
    refine ⟨by simp, fun x hx => ?_⟩
    obtain ⟨n, _, rfl⟩ := List.mem_map.1 hx
    rfl
  simp only [numT, kd_mk, its_mk, List.length_nil, h2]
  simp
theorem parts_tri (V : List Nat → Bool) (f : List Nat) (h : Nat) (p : List Nat) (hf : f.length ≤ 512) (hp : p.length ≤ 512) (bf : ∀ x ∈ f, x < 256) (hh : h < 18446744073709551616) (bp : ∀ x ∈ p, x < 256) : partsOf V (enc 4 (triT f h p)) [2, 1, 2] = some [mkI 2 0 f [], mkN h, mkI 2 0 p []] := by
  have h1 := dec_enc V 4 4 (triT f h p) [] (okTri V f h p hf hp) (Nat.le_refl _) (fitTri 4 f h p bf hh bp)
  rw [List.append_nil, cnTri] at h1
  unfold partsOf
  rw [h1]
  simp [triT, kd_mk, its_mk, mkN]
theorem open_seal16 (l : List Nat) : opens 2 seal16 (seal16 l) = true := by
  unfold opens
  have h : (seal16 l).take ((seal16 l).length - 2) = l := by
    rw [seal16_length, Nat.add_sub_cancel, seal16, List.take_left']
    rfl
  rw [h]
  simp [seal16_length]
theorem open_seal32 (l : List Nat) : opens 4 seal32 (seal32 l) = true := by
  unfold opens
  have h : (seal32 l).take ((seal32 l).length - 4) = l := by
    rw [seal32_length, Nat.add_sub_cancel, seal32, List.take_left']
    rfl
  rw [h]
  simp [seal32_length]
theorem head_seal16 (l : List Nat) : (seal16 l).take ((seal16 l).length - 2) = l := by
  rw [seal16_length, Nat.add_sub_cancel, seal16, List.take_left']
  rfl
theorem head_seal32 (l : List Nat) : (seal32 l).take ((seal32 l).length - 4) = l := by
  rw [seal32_length, Nat.add_sub_cancel, seal32, List.take_left']
  rfl
theorem nums_lt (b : Bn) (h : okB b = true) (hs : b.seq < 4294967296) : ∀ n ∈ numsB b, n < 18446744073709551616 := by
  have := okB_of h
  intro n hn
  simp only [numsB, List.mem_cons, List.mem_nil_iff, or_false] at hn
  omega
theorem join_nums (b : Bn) (h : okB b = true) (hs : b.seq < 4294967296) : joinB ((numsB b).map mkN) b.hop.toNat b.pay = b := by
  have h1 := okB_of h
  obtain ⟨src, dst, seq, cre, lif, lim, hop, pri, off, tot, pay⟩ := b
  simp only [joinB, readB, numsB, List.map_cons, List.map_nil, List.getD_cons_succ, List.getD_cons_zero, mkN, nm_mk] at *
  simp only [Bn.mk.injEq, and_true]
  refine ⟨?_, ?_, ?_, ?_, ?_, ?_, ?_, ?_, ?_, ?_⟩
  all_goals first | (unfold u32; omega) | (rw [i64_small (by omega)]; omega)
/-- what was encoded is decoded. -/
theorem dec_encB (V : List Nat → Bool) (b : Bn) (h : okB b = true) (hs : b.seq < 4294967296) (hp : ∀ x ∈ b.pay, x < 256) : decBn V (encB b) = (0, b) := by
  have h1 := okB_of h
  have h2 := firstB_len b
  have e1 : partsOf V (encB b) [2, 1, 2] = some [mkI 2 0 (seal16 (firstB b)) [], mkN b.hop.toNat, mkI 2 0 (seal32 b.pay) []] := parts_tri V _ _ _ (by rw [seal16_length]; omega) (by rw [seal32_length]; omega) (seal16_byte (firstB_byte b)) (by omega) (seal32_byte hp)
  have e2 : partsOf V (firstB b) ten1 = some ((numsB b).map mkN) := parts_nums V (numsB b) (by simp [numsB]) (nums_lt b h hs)
  unfold decBn
  rw [e1]
  show tailB V (encB b) (seal16 (firstB b)) b.hop.toNat (seal32 b.pay) = (0, b)
  rw [tailB, if_pos (by rw [open_seal16, open_seal32]; rfl), head_seal16, head_seal32, e2]
  show (if okB (joinB ((numsB b).map mkN) b.hop.toNat b.pay) && decide (encB (joinB ((numsB b).map mkN) b.hop.toNat b.pay) = encB b) then _ else _) = _
  rw [join_nums b h hs, if_pos (by rw [h]; simp)]
/-- what was decoded is encoded as it was. -/
theorem enc_decB (V : List Nat → Bool) (l : List Nat) (h : (decBn V l).1 = 0) : okB (decBn V l).2 = true ∧ encB (decBn V l).2 = l := by
  have ht : ∀ f n p, (tailB V l f n p).1 = 0 → okB (tailB V l f n p).2 = true ∧ encB (tailB V l f n p).2 = l := by
    intro f n p
    unfold tailB
    split
    · split
      · intro h; cases h
      · split
        · rename_i hk
          intro _
          simpa using hk
        · intro h; cases h
    · intro h; cases h
  revert h
  unfold decBn
  split
  · exact ht _ _ _
  · intro h; cases h
end Go.Proofs.YtjfmgokpnpmdpaaDoor
