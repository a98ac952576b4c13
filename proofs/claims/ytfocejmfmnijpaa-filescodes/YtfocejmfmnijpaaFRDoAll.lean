/- The reference's own Do does what the code's do does. -/
import Derived.Test.YtfocejmfmnijpaaFRDoMore
namespace Go.Proofs.Ytfocejmfmnijpaa
open Go.RowKit

theorem ne_true {n : ByteArray} {x : Fil} (h : x.name ≠ n) : neB n x = true := by unfold neB; rw [decide_eq_false h]; rfl
theorem ne_false {n : ByteArray} {x : Fil} (h : x.name = n) : neB n x = false := by unfold neB; rw [decide_eq_true h]; rfl
theorem filter_all {l : List Fil} {n : ByteArray} (h : ∀ x ∈ l, x.name ≠ n) : l.filter (neB n) = l := List.filter_eq_self.2 fun x hx => ne_true (h x hx)
/-- behind the place of a name that is there no file has it. -/
theorem back_other {L : List Fil} {n : ByteArray} (h : risingB L = true) : ∀ x ∈ L.drop (atS L n + 1), x.name ≠ n := by
  intro x hx e
  obtain ⟨j, hj, rfl⟩ := List.getElem_of_mem hx
  rw [List.length_drop] at hj
  rw [List.getElem_drop] at e
  have := at_of_mem h _ (by omega) e
  omega
theorem front_other {L : List Fil} {n : ByteArray} : ∀ x ∈ L.take (atS L n), x.name ≠ n := by
  intro x hx e
  obtain ⟨j, hj, rfl⟩ := List.getElem_of_mem hx
  rw [List.length_take] at hj
  rw [List.getElem_take] at e
  have := atS_below L n j (by omega) (by omega)
  rw [e, less_irrefl] at this
  cases this
theorem with_put {L : List Fil} {n : ByteArray} {b : List Nat} (h : risingB L = true) : withL L n b = putS L n b := by
  unfold withL putS
  cases ht : thereB L n with
  | true =>
    obtain ⟨hlt, hnm⟩ := there_get ht
    rw [if_pos rfl, List.set_eq_take_append_cons_drop, if_pos hlt, List.drop_eq_getElem_cons hlt, List.filter_cons, ne_false hnm, if_neg (by simp), filter_all (back_other h)]
  | false =>
    rw [if_neg (by simp), filter_all]
    intro x hx e
    obtain ⟨j, hj, rfl⟩ := List.getElem_of_mem hx
    rw [List.length_drop] at hj
    rw [List.getElem_drop] at e
    rw [(there_iff h n).2 ⟨_, List.getElem_mem _, e⟩] at ht
    cases ht
theorem without_drop {L : List Fil} {n : ByteArray} (h : risingB L = true) (ht : thereB L n = true) : L.filter (neB n) = dropS L n := by
  obtain ⟨hlt, hnm⟩ := there_get ht
  unfold dropS
  conv => lhs; rw [← List.take_append_drop (atS L n) L, List.drop_eq_getElem_cons hlt]
  rw [List.filter_append, List.filter_cons, ne_false hnm, if_neg (by simp), filter_all front_other, filter_all (back_other h)]
theorem set_put {L : List Fil} {n : ByteArray} {b : List Nat} (ht : thereB L n = true) : L.set (atS L n) ⟨n, b⟩ = putS L n b := by
  unfold putS
  rw [ht, if_pos rfl]

theorem doE_ok {L L' : List Fil} {o : OpS} (hn : nameB o.name = true) (h : byKindE L o = .ok L') : doE L o = capE L' := by
  unfold doE capE
  rw [hn, h]
  rfl
theorem doE_no {L : List Fil} {o : OpS} {r : Int} (hn : nameB o.name = true) (h : byKindE L o = .error r) : doE L o = .error r := by
  unfold doE
  rw [hn, h]
  rfl
theorem cost_of {L L' : List Fil} {o : OpS} (hR : rightB L = true) (hn : nameB o.name = true) (h : byKindE L o = .ok L') : costS L' ≤ 4611686018427387904 := by
  obtain ⟨h1, h2⟩ := byKind_fair (fair_of hR) hn h
  have := cost_bound h1.2
  have := (right_over hR).1
  omega

theorem rdo_any (w : World) (a : Option Addr) (c : Nat) (L : List Fil) (o : OpS) (ab : Option Addr) (cb : Nat) (hL : ListAt w a L) (hR : rightB L = true) (ho : OpFits o) (hrow : Row w ab o.bytes) (hcb : o.bytes.length ≤ cb) (hcm : cb ≤ maxLen) :
    Calls Try.prog 31 #[.agg #[.slice a L.length c], opv o ab cb] w fun e w' => RDo w a c L (doE L o) e w' := by
  have h64 := (right_over hR).1
  have hr := right_rising hR
  have hbl := bytesOf_le (fair_of hR) o.name
  have no : ∀ (r : Int), doE L o = .error r → (Calls Try.prog 31 #[.agg #[.slice a L.length c], opv o ab cb] w fun e w' => e = .returned (.tuple #[.agg #[.slice a L.length c], .int .i64 r]) ∧ Hid (Below w.heap.size w w')) → Calls Try.prog 31 #[.agg #[.slice a L.length c], opv o ab cb] w fun e w' => RDo w a c L (doE L o) e w' := fun r h1 h2 => h2.mono fun e w' ⟨he, hb⟩ => .inr ⟨r, h1, he, hb⟩
  have yes : ∀ (M : List Fil), doE L o = capE M → (Calls Try.prog 31 #[.agg #[.slice a L.length c], opv o ab cb] w fun e w' => RDo w a c L (capE M) e w') → Calls Try.prog 31 #[.agg #[.slice a L.length c], opv o ab cb] w fun e w' => RDo w a c L (doE L o) e w' := fun M h1 h2 => by rw [h1]; exact h2
  by_cases hk : o.kind < 1 ∨ 4 < o.kind
  · refine no 2 ?_ (rdo_kind w a c L o ab cb hk)
    cases hn : nameB o.name with
    | false => unfold doE; rw [hn]; rfl
    | true =>
      refine doE_no hn ?_
      unfold byKindE
      rw [if_neg (by omega), if_neg (by omega), if_neg (by omega), if_neg (by omega)]
  · cases hn : nameB o.name with
    | false =>
      refine no 2 ?_ (rdo_name w a c L o ab cb (by omega) (by omega) ho.1 hn)
      unfold doE; rw [hn]; rfl
    | true =>
      by_cases h1 : o.kind = 1
      · have hkE : byKindE L o = putE L o.name o.bytes := by unfold byKindE; rw [if_pos h1]
        by_cases hl : 4096 < o.bytes.length
        · refine no 3 (doE_no hn ?_) (rdo_long1 w a c L o ab cb hL h1 ho.1 hn _ rfl hl)
          rw [hkE]; unfold putE; rw [if_pos hl]
        · have hok : byKindE L o = .ok (withL L o.name o.bytes) := by rw [hkE, with_put hr]; unfold putE; rw [if_neg hl]
          exact yes _ (doE_ok hn hok) (rdo_put w a c L o ab cb hL h1 ho.1 hn _ rfl (by omega) hrow hcb hcm (by omega) (cost_of hR hn hok))
      · by_cases h2 : o.kind = 2
        · have hkE : byKindE L o = writeE L o.name o.at_ o.bytes := by unfold byKindE; rw [if_neg h1, if_pos h2]
          cases ht : thereB L o.name with
          | false =>
            refine no 4 (doE_no hn ?_) (rdo_none2 w a c L o ab cb hL h2 ho.1 hn ht)
            rw [hkE]; unfold writeE; rw [ht, if_pos rfl]
          | true =>
            by_cases ha : o.at_ < 0 ∨ ((bytesOf L o.name).length : Int) < o.at_
            · refine no 2 (doE_no hn ?_) (rdo_arg2 w a c L o ab cb hL h2 ho.1 hn ht ha)
              rw [hkE]; unfold writeE; rw [ht, if_neg (by simp), if_pos ha]
            · obtain ⟨t0, ht0⟩ : ∃ t : Nat, o.at_ = (t : Int) := ⟨o.at_.toNat, by omega⟩
              by_cases hl : 4096 < t0 + o.bytes.length
              · refine no 3 (doE_no hn ?_) (rdo_long2 w a c L o ab cb hL h2 ho.1 hn ht t0 ht0 (by omega) hbl hl ho.2.2)
                rw [hkE]; unfold writeE; rw [ht, if_neg (by simp), if_neg ha, if_pos (by omega)]
              · have hok : byKindE L o = .ok (withL L o.name (overS (bytesOf L o.name) t0 o.bytes)) := by
                  rw [hkE, with_put hr, ← set_put ht]; unfold writeE; rw [ht, if_neg (by simp), if_neg ha, if_neg (by omega), ht0]; rfl
                by_cases hin : t0 + o.bytes.length < (bytesOf L o.name).length
                · exact yes _ (doE_ok hn hok) (rdo_write_in w a c L o ab cb hL h2 ho.1 hn ht t0 ht0 (by omega) hbl (by omega) hrow hcb hcm (by omega) (cost_of hR hn hok) hin)
                · exact yes _ (doE_ok hn hok) (rdo_write_out w a c L o ab cb hL h2 ho.1 hn ht t0 ht0 (by omega) hbl (by omega) hrow hcb hcm (by omega) (cost_of hR hn hok) (by omega))
        · by_cases h3 : o.kind = 3
          · have hkE : byKindE L o = renameE L o.name o.new := by unfold byKindE; rw [if_neg h1, if_neg h2, if_pos h3]
            cases hm : nameB o.new with
            | false =>
              refine no 2 (doE_no hn ?_) (rdo_new w a c L o ab cb h3 ho.1 hn ho.2.1 hm)
              rw [hkE]; unfold renameE; rw [hm, if_pos rfl]
            | true =>
              cases ht : thereB L o.name with
              | false =>
                refine no 4 (doE_no hn ?_) (rdo_none3 w a c L o ab cb hL h3 ho.1 hn ho.2.1 hm ht)
                rw [hkE]; unfold renameE; rw [hm, ht, if_neg (by simp), if_pos rfl]
              | true =>
                have hok : byKindE L o = .ok (withL (L.filter (neB o.name)) o.new (bytesOf L o.name)) := by
                  rw [hkE, without_drop hr ht, with_put (dropS_rising _ hr)]; unfold renameE; rw [hm, ht, if_neg (by simp), if_neg (by simp)]
                exact yes _ (doE_ok hn hok) (rdo_name3 w a c L o ab cb hL h3 ho.1 hn ho.2.1 hm ht hbl (by omega) (cost_of hR hn hok))
          · have h4 : o.kind = 4 := by omega
            have hkE : byKindE L o = dropE L o.name := by unfold byKindE; rw [if_neg h1, if_neg h2, if_neg h3, if_pos h4]
            cases ht : thereB L o.name with
            | false =>
              refine no 4 (doE_no hn ?_) (rdo_none4 w a c L o ab cb hL h4 ho.1 hn ht)
              rw [hkE]; unfold dropE; rw [ht, if_pos rfl]
            | true =>
              have hok : byKindE L o = .ok (L.filter (neB o.name)) := by rw [hkE, without_drop hr ht]; unfold dropE; rw [ht, if_neg (by simp)]
              exact yes _ (doE_ok hn hok) (rdo_drop w a c L o ab cb hL h4 ho.1 hn ht (by omega) (cost_of hR hn hok))
end Go.Proofs.Ytfocejmfmnijpaa
