/- What the laws of chapter 8 need. (by laws8.py) -/
import Derived.Test.YtifioecofeojpaaEvw
namespace Go.Proofs.Ytifioecofeojpaa
open Go.ChangeShapes Go.WideShapes Go.ChangeAt Go.RowKit
set_option linter.unusedVariables false

theorem heldInts_b (A : Option Addr) (n c : Nat) (k0 : Int) (w : World) (hx : Ir w A (marks k0 n)) (hn : n ≤ 1048576) (h0 : 0 ≤ k0) (h1 : k0 ≤ 1000000000000) :
    Calls Try.prog 46 #[.slice A n c, .int .i64 k0] w (Gives w (.int .i64 (k0 + n))) := (heldInts A n c k0 w hx hn h0 h1).mono fun e w' k => ⟨k.1, k.2 ▸ Below.refl _ _⟩
end Go.Proofs.Ytifioecofeojpaa
