/- A scope out of which the run jumps to one label, ahead. -/
import Derived.Test.YtnjcaolkcmpdcaaHMem
import Derived.ScopeJumps
import Derived.WalkMore
namespace Go.Proofs.Ytnjcaolkcmpdcaa
open Go.RowKit

/-! a scope out of which the run jumps to one label, ahead -/
section
variable {Q : Exit → Act → World → Prop} {J : Act → World → Prop} {a : Act} {w : World} {l : Nat}
theorem jump_ret : Exit.jump l J Q .ret a w = Q .ret a w := rfl
theorem jump_normal : Exit.jump l J Q .normal a w = Q .normal a w := rfl
theorem jump_exit (i : Nat) : Exit.jump l J Q (.exit i) a w = Q (.exit i) a w := rfl
theorem jump_panic (ch : List PanicEntry) : Exit.jump l J Q (.panic ch) a w = Q (.panic ch) a w := rfl
theorem jump_goto : Exit.jump l J Q (.goto l) a w = J a w := by simp [Exit.jump]
end
theorem wp_scope_once {P : Program} {c rest : Code} {a : Act} {w : World} {Q : Exit → Act → World → Prop} (l : Nat) (hf : findLabel c l = some rest)
    (h : c.wp P (Exit.jump l (fun a w => rest.wp P (Exit.jump l (fun _ _ => False) Q) a w) Q) a w) : (Code.scope c).wp P Q a w :=
  wp_scope_jumps l _ (fun _ _ => 0) hf h (fun a w hJ => wp_mono hJ (fun e a w hq => by
    cases e with
    | goto l' => exact hq.2.elim
    | normal => exact hq
    | exit i => exact hq
    | ret => exact hq
    | panic ch => exact hq
    | outgrown => exact hq))
end Go.Proofs.Ytnjcaolkcmpdcaa
