/- The book of rates: impl.bookOf. -/
import Derived.Test.YtaehkkcaoniphaaKey
import Derived.Test.YtaehkkcaoniphaaHeldt
import Derived.Test.YtaehkkcaoniphaaDwr
import Derived.DeepKeys2
import Derived.ChangeKeysEq
import Derived.Maps.RangeWalk
import Derived.Maps.OwnSet
import Derived.Maps.Views
namespace Go.Proofs.Ytaehkkcaoniphaa
open Go.ChangeShapes Go.WideShapes Go.ChangeAt Go.RowKit
set_option linter.unusedVariables false

theorem wpList_insert_own {H : Type} {P : Program} (w : World) {ops : Array Oper} {rest : List Oper} {o : Oper} {a : Act} {Q : Exit → Act → World → Prop}
    (hg : o.guard = none) (m x v : Operand) (t : TypeId) (hop : o.op = Op.insert t m x v)
    (k e : TypeId) (K : Maps.Keyed P k) (ht : P.underlying t = some (.map k e)) (R : Value → Option (DataW H × List MemPlace)) (b n : Nat) (D : DataW H)
    (hm : a.eval m = .map (some b)) (hown : w.ownsMap P k R b n D) (hn : n < maxLen) (key val : Value) (kl : Lit) (hx : a.eval x = key) (hv : a.eval v = val) (hkey : keyOf P k key = some kl)
    (d : DataW H) (ps : List MemPlace) (hval : R val = some (d, ps))
    (hK : ∀ w', w'.ownsMap P k R b (n + 1) (D.put kl d) → w.grownBy w' (some b) → wpList P ops Q rest (a.put o.dst undef) w') :
    wpList P ops Q (o :: rest) a w := by
  refine wpList_plain hg fun K' hK' => ?_
  obtain ⟨w', hrun, r1, r2⟩ := hown.update K ht hn hkey hval
  unfold Oper.wp
  simp [execOp, hop, hm, hx, hv, hrun, Result.andThen]
  exact hK' _ _ (hK w' r1 r2)

/-! ### the key's law -/
theorem arrKey : WideMaps.ArrKey Try.prog 116 2 2 := ⟨Try.underlying116, by kernel_rfl, by kernel_rfl, by kernel_rfl⟩
theorem keyLaw : Maps.Keyed Try.prog 116 := Maps.Keyed.of_law arrKey.law
theorem some_types : ∃ m, Try.prog.types.size = m + 1 := ⟨Try.prog.types.size - 1, by have : 0 < Try.prog.types.size := of_decide_eq_true (by kernel_rfl); omega⟩
def kv (x : Int × Int) : Value := .agg #[.int .i64 x.1, .int .i64 x.2]
def kl (x : Int × Int) : Lit := .string (keyBytes [.int .i64 x.1, .int .i64 x.2])
def Wf (x : Int × Int) : Prop := (Lit.int .i64 x.1).wf = true ∧ (Lit.int .i64 x.2).wf = true
theorem key_of {x : Int × Int} (h : Wf x) : keyOf Try.prog 116 (kv x) = some (kl x) := WideMaps.keyOf_pair arrKey Try.underlying2 some_types h.1 h.2
theorem key_inv' {P : Program} {k e : TypeId} (A : WideMaps.ArrKey P k e 2) (he : P.underlying e = some (.int .i64)) {v : Value} {l : Lit} (h : keyOf P k v = some l) : ∃ x, v = kv x ∧ l = kl x ∧ Wf x := by
  obtain ⟨xs, L, rfl, hl, rfl⟩ := keyOf_top A.wide h
  unfold Program.keyLits at hl
  simp only [A.hu] at hl
  split at hl
  · rename_i hc
    rw [A.size] at hc
    obtain ⟨cs⟩ := xs
    match cs, hc with
    | [c0, c1], _ =>
      rw [show List.range 2 = [0, 1] from rfl, List.mapM_cons, List.mapM_cons, List.mapM_nil] at hl
      simp only [bind, Option.bind_eq_some_iff, Option.map_eq_some_iff, pure, Option.some.injEq, A.one] at hl
      obtain ⟨_, ⟨l0, h0, _, ⟨l1, h1, _, rfl, rfl⟩, rfl⟩, rfl⟩ := hl
      have g0 := keyLits_wf h0
      have g1 := keyLits_wf h1
      obtain ⟨a, ea, rfl⟩ := keyLits_int' he h0
      obtain ⟨b, eb, rfl⟩ := keyLits_int' he h1
      simp at ea eb
      subst ea; subst eb
      exact ⟨(a, b), rfl, rfl, g0 _ (List.mem_singleton.2 rfl), g1 _ (List.mem_singleton.2 rfl)⟩
  · cases hl
theorem key_inv {v : Value} {l : Lit} (h : keyOf Try.prog 116 v = some l) : ∃ x, v = kv x ∧ l = kl x ∧ Wf x := key_inv' arrKey Try.underlying2 h
theorem kl_inj {x y : Int × Int} (hx : Wf x) (hy : Wf y) (h : kl x = kl y) : x = y := by
  have := keyLaw.inj (key_of hx) ((key_of hy).trans (by rw [h]))
  unfold kv at this
  simp at this
  exact Prod.ext this.1 this.2
theorem kl_key {x : Int × Int} (hx : Wf x) : WideAt.IsKeyLit (kl x) := keyLaw.key (key_of hx)

/-! ### what the book has -/
def Rt.val (r : Rt) : Value := .agg #[.string ⟨r.c.toArray⟩, .int .i64 r.day, .int .i64 r.num, .int .i64 r.den]
def rV (v : Value) : Option (DataW Value × List MemPlace) := some (.held v, [])
structure Bkd (D : DataW Value) (f : Int × Int → Option Rt) : Prop where
  map : Maps.IsMap D
  has : ∀ x, Wf x → Maps.has D (kl x) = (f x).isSome
  at_ : ∀ x r, Wf x → f x = some r → ∀ z, D.atKey (kl x) z = .held r.val
def upd (f : Int × Int → Option Rt) (x : Int × Int) (r : Rt) : Int × Int → Option Rt := fun y => if y = x then some r else f y
theorem Bkd.put {D : DataW Value} {f : Int × Int → Option Rt} (h : Bkd D f) {x : Int × Int} (hx : Wf x) (r : Rt) : Bkd (D.put (kl x) (.held r.val)) (upd f x r) := by
  refine ⟨h.map.put _ _, fun y hy => ?_, fun y q hy hq z => ?_⟩
  · unfold upd
    by_cases e : y = x
    · subst e; rw [Maps.has_put_same h.map (kl_key hy), if_pos rfl]; rfl
    · rw [Maps.has_put_other (fun e2 => e (kl_inj hy hx e2)), if_neg e]; exact h.has y hy
  · unfold upd at hq
    by_cases e : y = x
    · subst e; rw [if_pos rfl] at hq; obtain rfl := Option.some.inj hq; exact Maps.atKey_put_same h.map (kl_key hy) _ _
    · rw [if_neg e] at hq; rw [Maps.atKey_put_other (fun e2 => e (kl_inj hy hx e2))]; exact h.at_ y q hy hq z
def one : Rt := ⟨[], 0, 1, 1⟩
def bookF (rs : List Rt) : Int × Int → Option Rt := rs.foldl (fun f r => upd f (keyN r.c, r.day) r) (upd (fun _ => none) (keyN xdr, 0) one)
theorem bookF_snoc (rs : List Rt) (r : Rt) : bookF (rs ++ [r]) = upd (bookF rs) (keyN r.c, r.day) r := by simp [bookF, List.foldl_append]
theorem bd_0 : Bkd (DataW.map [] : DataW Value) (fun _ => none) := ⟨Maps.isMap_empty, fun _ _ => rfl, fun _ _ _ h => by cases h⟩
theorem wf_of {a b : Int} (ha : -9223372036854775808 ≤ a) (ha2 : a ≤ 9223372036854775807) (hb : -9223372036854775808 ≤ b) (hb2 : b ≤ 9223372036854775807) : Wf (a, b) := by
  have g : ∀ {n : Int}, -9223372036854775808 ≤ n → n ≤ 9223372036854775807 → (Lit.int .i64 n).wf = true := fun {n} h1 h2 => by
    show (decide (IntKind.i64.min ≤ n) && decide (n ≤ IntKind.i64.max)) = true
    rw [show IntKind.i64.min = -9223372036854775808 from rfl, show IntKind.i64.max = 9223372036854775807 from rfl, decide_eq_true h1, decide_eq_true h2]; rfl
  exact ⟨g ha ha2, g hb hb2⟩
theorem wf_key {c : List UInt8} {d : Int} (h : codeB c = true) (hd : -1 ≤ d) (hd2 : d ≤ 36524) : Wf (keyN c, d) := by
  have := keyN_bd h
  exact wf_of (by omega) (by omega) (by omega) (by omega)
theorem grown_of {w w' : World} (h : Below w.heap.size w w') : w.grownBy w' none := ⟨h.os, h.tape, h.output, h.size, fun i hi _ => h.block i hi⟩
end Go.Proofs.Ytaehkkcaoniphaa
