/- receiver.Take of whatever session, segment and moment. -/
import Derived.Test.YthmolodkaboakaaVTake3
namespace Go.Proofs.Ythmolodkaboakaa
open Go.RowKit
set_option linter.unusedVariables false
theorem tkK_1 {s : Tk} {x : Sg} {now : Int} (h : x.knd = 1) : tkK s x now = datK { s with due := now + s.lif } x := if_pos h
theorem tkK_4 {s : Tk} {x : Sg} {now : Int} (h : x.knd = 4) : tkK s x now = ({ s with due := now + s.lif, sta := if s.sta = 1 then 4 else s.sta }, [⟨5, s.src, s.ses, 0, 0, 0, 0, 0, 0, 0, false, [], []⟩]) := by
  unfold tkK
  rw [if_neg (by omega), if_pos h]
theorem tkK_0 {s : Tk} {x : Sg} {now : Int} (h1 : x.knd ≠ 1) (h4 : x.knd ≠ 4) : tkK s x now = ({ s with due := now + s.lif }, []) := by
  unfold tkK
  rw [if_neg h1, if_neg h4]
theorem vtake_any (s : Tk) (a : Option Addr) (c : Nat) (g : Option Addr) (d : Nat) (x : Sg) (xa : Option Addr) (xc : Nat) (a2 : Option Addr) (c2 : Nat) (now : Int) (w : World) (hc : CameK w s a c g d) (hx : Came w x xa xc a2 c2) :
    Calls Try.prog 10 #[kv s a c g d, sv x xa xc a2 c2, .int .i64 now] w fun e w' => Ans w w' e (takeK s x now) := by
  unfold takeK
  cases hok : okK s with
  | false =>
    rw [if_neg (by simp)]
    exact vtake_no s a c g d x xa xc a2 c2 now w 250 (by decide) (fun W hb => vbegin_no s a c g d now W (hc.later hb) hok)
  | true =>
    rw [if_pos rfl]
    cases hn : inB now 0 1048576 with
    | false =>
      rw [if_neg (by simp)]
      exact vtake_no s a c g d x xa xc a2 c2 now w 2 (by decide) (fun W hb => vbegin_arg s a c g d now W (hc.later hb) hok hn)
    | true =>
      rw [if_pos rfl]
      cases h1 : okS x with
      | false =>
        rw [if_neg (by simp [goesK, h1])]
        exact vtake_e1 s a c g d x xa xc a2 c2 now w hc hx hok hn h1
      | true =>
        cases h2 : (x.src != s.src) with
        | true =>
          rw [if_neg (by simp [goesK]; simp at h2; intro _ h; exact absurd h h2)]
          exact vtake_e2 s a c g d x xa xc a2 c2 now w hc hx hok hn h1 h2
        | false =>
          have e2 : x.src = s.src := by simpa using h2
          cases h3 : ((x.ses : Int) != (s.ses : Int)) with
          | true =>
            have e3 : x.ses ≠ s.ses := by intro e; rw [e] at h3; simp at h3
            rw [if_neg (by simp [goesK]; intro _ _ h; exact absurd h e3)]
            exact vtake_e3 s a c g d x xa xc a2 c2 now w hc hx hok hn h1 h2 h3
          | false =>
            have e3 : x.ses = s.ses := by simp at h3; omega
            cases h4 : fwdS x with
            | false =>
              rw [if_neg (by simp [goesK, h4])]
              exact vtake_e4 s a c g d x xa xc a2 c2 now w hc hx hok hn h1 h2 h3 h4
            | true =>
              rw [if_pos (by simp [goesK, h1, e2, e3, h4])]
              cases hk1 : (x.knd == 1) with
              | true =>
                rw [tkK_1 (by simpa using hk1)]
                exact vtake_d1 s a c g d x xa xc a2 c2 now w hc hx hok hn h1 h2 h3 h4 hk1
              | false =>
                cases hk4 : (x.knd == 4) with
                | false =>
                  rw [tkK_0 (by simpa using hk1) (by simpa using hk4)]
                  exact vtake_p s a c g d x xa xc a2 c2 now w hc hx hok hn h1 h2 h3 h4 hk1 hk4
                | true =>
                  rw [tkK_4 (by simpa using hk4)]
                  cases hs1 : (s.sta == 1) with
                  | true =>
                    rw [if_pos (by simpa using hs1)]
                    exact vtake_q4a s a c g d x xa xc a2 c2 now w hc hx hok hn h1 h2 h3 h4 hk1 hk4 hs1
                  | false =>
                    rw [if_neg (by simpa using hs1)]
                    exact vtake_q4b s a c g d x xa xc a2 c2 now w hc hx hok hn h1 h2 h3 h4 hk1 hk4 hs1
end Go.Proofs.Ythmolodkaboakaa
