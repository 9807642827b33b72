import Derived.Test.YtjcklmhgjdmjoaaGreatMCls
namespace Go.Proofs.YtjcklmhgjdmjoaaGreat
open Go.ChangeShapes Go.WideShapes Go.ChangeAt Go.RowKit
set_option linter.unusedVariables false
structure Edn where
 y : Int
 cs : List Cls
 deriving DecidableEq
structure Edh where
 y : Int
 A : Option Addr
 n : Nat
 c : Nat
def Edh.cells (h : Edh) : List Value := [.int .i64 h.y, .slice h.A h.n h.c]
def Edh.ob (h : Edh) : Option Nat := (Value.slice h.A h.n h.c).ownBlock
def EdOne (w : World) (h : Edh) (e : Edn) : Prop := h.y = e.y /\ h.n = e.cs.length /\ ClsR w h.A e.cs
def EdnR (w : World) (A : Option Addr) (es : List Edn) : Prop :=
 ∃ hs : List Edh, hs.length = es.length /\ Rw w A (hs.flatMap Edh.cells) /\ ∀ (k : Nat) h e, hs[k]? = some h -> es[k]? = some e -> EdOne w h e
theorem EdnR.at {w : World} {A : Option Addr} {es : List Edn} (h : EdnR w A es) {k : Nat} (hk : k < es.length) :
  ∃ b off e a c, A = some ⟨b, off, none⟩ /\ b < w.heap.size /\ Hid (es[k]? = some e) /\ w.cell? ⟨b, off + k * 2, none⟩ = some (.int .i64 e.y) /\
   w.cell? ⟨b, off + k * 2 + 1, none⟩ = some (.slice a e.cs.length c) /\ ClsR w a e.cs := by
 obtain ⟨hs, hl, hr, ho⟩ := h
 have hf := flat_len Edh.cells 2 (fun _ => rfl) hs
 obtain ⟨b, off, e0, hb, hc⟩ := hr (by rw [hf]; omega)
 have h1 : hs[k]? = some (hs[k]'(by omega)) := List.getElem?_eq_getElem (by omega)
 have h2 : es[k]? = some es[k] := List.getElem?_eq_getElem hk
 obtain ⟨q1, q2, q3⟩ := ho k _ _ h1 h2
 have g := fun j hj => hc (k * 2 + j) _ ((flat_at Edh.cells 2 (fun _ => rfl) hs k j _ h1 hj).trans (List.getElem?_eq_getElem (by exact hj)))
 refine ⟨b, off, es[k], (hs[k]'(by omega)).A, (hs[k]'(by omega)).c, e0, hb, Lib.hid h2, ?_, ?_, q3⟩
 ·
  have := g 0 (by omega); rw [<- q1]; simpa [Edh.cells] using this
 ·
  have := g 1 (by omega); rw [<- q2]; simpa [Edh.cells, Nat.add_assoc] using this
theorem EdnR.below {w w' : World} {A : Option Addr} {es : List Edn} (h : EdnR w A es) (hb : Below w.heap.size w w') : EdnR w' A es := by
 obtain ⟨hs, hl, hr, ho⟩ := h
 exact ⟨hs, hl, Rw.below hr hb, fun k h e h1 h2 => ⟨(ho k h e h1 h2).1, (ho k h e h1 h2).2.1, (ho k h e h1 h2).2.2.below hb⟩⟩
structure Tou (lo hi : Nat) (w w' : World) : Prop where
 os : w'.os = w.os
 tape : w'.tape = w.tape
 output : w'.output = w.output
 size : w.heap.size <= w'.heap.size
 block : ∀ k, k < w.heap.size -> ¬ (lo <= k /\ k < hi) -> w'.heap[k]? = w.heap[k]?
theorem Tou.refl (lo hi : Nat) (w : World) : Tou lo hi w w := ⟨rfl, rfl, rfl, Nat.le_refl _, fun _ _ _ => rfl⟩
theorem Tou.trans {lo hi : Nat} {a b c : World} (h : Tou lo hi a b) (k : Tou lo hi b c) : Tou lo hi a c :=
 ⟨k.os.trans h.os, k.tape.trans h.tape, k.output.trans h.output, Nat.le_trans h.size k.size, fun i h1 h2 => (k.block i (Nat.lt_of_lt_of_le h1 h.size) h2).trans (h.block i h1 h2)⟩
theorem Tou.drew {lo hi : Nat} {a w : World} (h : Tou lo hi a w) : Tou lo hi a w.drew := ⟨h.os, h.tape, h.output, h.size, h.block⟩
theorem Tou.of_below {lo hi : Nat} {w w' : World} (h : Below w.heap.size w w') : Tou lo hi w w' := ⟨h.os, h.tape, h.output, h.size, fun k h1 _ => h.block k h1⟩
theorem Tou.of_grown {lo hi : Nat} {w w' : World} {row : Option Nat} (h : w.grownBy w' row) (hr : ∀ g, row = some g -> lo <= g /\ g < hi) : Tou lo hi w w' :=
 ⟨h.os, h.tape, h.output, h.size, fun k h1 h2 => h.block k h1 fun e => h2 (hr k e.symm)⟩
theorem Tou.mono {lo hi lo' hi' : Nat} {w w' : World} (h : Tou lo hi w w') (h1 : lo' <= lo) (h2 : hi <= hi') : Tou lo' hi' w w' :=
 ⟨h.os, h.tape, h.output, h.size, fun k hk hn => h.block k hk fun ⟨a, b⟩ => hn ⟨by omega, by omega⟩⟩
theorem Tou.far {lo hi B : Nat} {W w w' : World} (hW : Below B W w) (h : Tou lo hi w w') (hB : B <= lo) (hs : B <= w.heap.size) : Below B W w' :=
 hW.trans ⟨h.os, h.tape, h.output, h.size, fun k hk => h.block k (by omega) (by omega)⟩
theorem own_tou {w w' : World} {base lo hi : Nat} {e : TypeId} {size n : Nat} {v : Value} {xs : List Value} (h : w.ownsRow base e size v n xs) (ht : Tou lo hi w w') (hd : ∀ g, v.ownBlock = some g -> ¬ (lo <= g /\ g < hi)) :
  w'.ownsRow base e size v n xs := by
 refine ⟨h.1, ?_⟩
 rcases h.2 with hn | ⟨g, cap, cur, rfl, hb, hgg, rest⟩
 ·
  exact .inl hn
 ·
  refine .inr ⟨g, cap, cur, rfl, hb, ?_, rest⟩
  rw [ht.block g (Array.getElem?_eq_some_iff.1 hgg).1 (hd g rfl)]
  exact hgg
theorem ClsO.tou {w w' : World} {base lo hi : Nat} {A : Option Addr} {n c : Nat} {rs : List Cls} (h : ClsO w base A n c rs) (ht : Tou lo hi w w') (hd : ∀ g, (Value.slice A n c).ownBlock = some g -> ¬ (lo <= g /\ g < hi)) : ClsO w' base A n c rs := own_tou h ht hd
def Edh.sep (a b : Edh) : Prop := ∀ g, a.ob = some g -> b.ob ≠ some g
structure EdnOw (w : World) (lo hi : Nat) (A : Option Addr) (n c : Nat) (hs : List Edh) (es : List Edn) : Prop where
 row : w.ownsRow lo 42 2 (.slice A n c) n (hs.flatMap Edh.cells)
 len : hs.length = es.length
 one : ∀ (k : Nat) h e, hs[k]? = some h -> es[k]? = some e -> h.y = e.y /\ ClsO w lo h.A h.n h.c e.cs
 hiA : ∀ g, (Value.slice A n c).ownBlock = some g -> g < hi
 his : ∀ h ∈ hs, ∀ g, h.ob = some g -> g < hi /\ (Value.slice A n c).ownBlock ≠ some g
 sep : hs.Pairwise Edh.sep
def EdnO (w : World) (lo hi : Nat) (A : Option Addr) (n c : Nat) (es : List Edn) : Prop := ∃ hs, EdnOw w lo hi A n c hs es
section
variable {w w' : World} {lo hi : Nat} {A : Option Addr} {n c : Nat} {hs : List Edh} {es : List Edn}
theorem EdnOw.lenN (h : EdnOw w lo hi A n c hs es) : hs.length = n := by
 have := h.row.1; rw [flat_len Edh.cells 2 (fun _ => rfl)] at this; omega
theorem EdnO.len (h : EdnO w lo hi A n c es) : es.length = n := by obtain ⟨hs, h⟩ := h; rw [<- h.len]; exact h.lenN
theorem EdnOw.lo_mem (h : EdnOw w lo hi A n c hs es) {x : Edh} (hx : x ∈ hs) {g : Nat} (hg : x.ob = some g) : lo <= g /\ g < hi /\ g < w.heap.size := by
 obtain ⟨i, hi'⟩ := List.getElem?_of_mem hx
 have hl : i < es.length := by rw [<- h.len]; exact (List.getElem?_eq_some_iff.1 hi').1
 have := (h.one i x _ hi' (List.getElem?_eq_getElem hl)).2.lt g hg
 exact ⟨this.1, (h.his x hx g hg).1, this.2⟩
theorem EdnO.reads (h : EdnO w lo hi A n c es) : EdnR w A es := by
 obtain ⟨hs, h⟩ := h
 exact ⟨hs, h.len, Rw.ownS h.row, fun k x e h1 h2 => ⟨(h.one k x e h1 h2).1, (h.one k x e h1 h2).2.len.symm, (h.one k x e h1 h2).2.row⟩⟩
theorem EdnO.below (h : EdnO w lo hi A n c es) (hb : Below w.heap.size w w') : EdnO w' lo hi A n c es := by
 obtain ⟨hs, h⟩ := h
 exact ⟨hs, own_below h.row hb, h.len, fun k x e h1 h2 => ⟨(h.one k x e h1 h2).1, (h.one k x e h1 h2).2.below hb⟩, h.hiA, h.his, h.sep⟩
theorem EdnO.tou {lo' hi' : Nat} (h : EdnO w lo hi A n c es) (ht : Tou lo' hi' w w') (hd : hi' <= lo ∨ hi <= lo') : EdnO w' lo hi A n c es := by
 obtain ⟨hs, h⟩ := h
 refine ⟨hs, own_tou h.row ht (fun g hg => ?_), h.len, fun k x e h1 h2 => ⟨(h.one k x e h1 h2).1, (h.one k x e h1 h2).2.tou ht (fun g hg => ?_)⟩, h.hiA, h.his, h.sep⟩
 ·
  have a := (h.row.lt g hg).1
  have b := h.hiA g hg
  omega
 ·
  have a := h.lo_mem (List.mem_of_getElem? h1) hg
  omega
theorem EdnO.mono {lo' hi' : Nat} (h : EdnO w lo hi A n c es) (h1 : lo' <= lo) (h2 : hi <= hi') : EdnO w lo' hi' A n c es := by
 obtain ⟨hs, h⟩ := h
 refine ⟨hs, ?_, h.len, fun k x e e1 e2 => ⟨(h.one k x e e1 e2).1, (h.one k x e e1 e2).2.mono h1⟩, fun g hg => Nat.lt_of_lt_of_le (h.hiA g hg) h2, fun x hx g hg => ⟨Nat.lt_of_lt_of_le (h.his x hx g hg).1 h2, (h.his x hx g hg).2⟩, h.sep⟩
 refine ⟨h.row.1, h.row.2.imp id ?_⟩
 rintro ⟨g, cap, cur, q1, q2, q3⟩
 exact ⟨g, cap, cur, q1, by omega, q3⟩
theorem EdnO.bdA (h : EdnO w lo hi A n c es) : Bd A hi := by
 obtain ⟨hs, h⟩ := h
 exact fun a e => h.hiA a.block (by rw [e]; rfl)
end
def NewEdns (w : World) (es : List Edn) (e : Ending) (w' : World) : Prop :=
 ∃ A c, e = .returned (.slice A es.length c) /\ EdnO w' w.heap.size w'.heap.size A es.length c es /\ Below w.heap.size w w'
def NewEdnsC (w : World) (p : List Edn × Int) (e : Ending) (w' : World) : Prop :=
 ∃ A c, e = .returned (.tuple #[.slice A p.1.length c, .int .i64 p.2]) /\ EdnO w' w.heap.size w'.heap.size A p.1.length c p.1 /\ Below w.heap.size w w'
end Go.Proofs.YtjcklmhgjdmjoaaGreat

namespace Go.Proofs.YtjcklmhgjdmjoaaGreat
open Go.ChangeShapes Go.WideShapes Go.ChangeAt Go.RowKit
set_option linter.unusedVariables false
def Edn.tot : List Edn -> Nat
 | [] => 0
 | e :: es => e.cs.length + Edn.tot es
end Go.Proofs.YtjcklmhgjdmjoaaGreat

namespace Go.Proofs.YtjcklmhgjdmjoaaGreat
open Go.ChangeShapes Go.WideShapes Go.ChangeAt Go.RowKit
set_option linter.unusedVariables false
theorem ednInfo : (Tryz.prog.info? 42).map (fun i => (i.zero, i.size, i.bytes)) = some (some (.agg #[.int .i64 0, .slice none 0 0]), 2, 32) := by kernel_rfl
structure EdnPt (w : World) (lo : Nat) (hs : List Edh) (es : List Edn) (k : Nat) : Prop where
 len : hs.length = k
 one : ∀ (j : Nat) h e, hs[j]? = some h -> es[j]? = some e -> h.y = e.y /\ ClsO w lo h.A h.n h.c e.cs
 sep : hs.Pairwise Edh.sep
theorem EdnPt.nil (w : World) (lo : Nat) (es : List Edn) : EdnPt w lo [] es 0 := ⟨rfl, fun j h e h1 => by simp at h1, List.Pairwise.nil⟩
section
variable {w w' : World} {lo k : Nat} {hs : List Edh} {es : List Edn}
theorem EdnPt.below (h : EdnPt w lo hs es k) (hb : Below w.heap.size w w') : EdnPt w' lo hs es k :=
 ⟨h.len, fun j x e h1 h2 => ⟨(h.one j x e h1 h2).1, (h.one j x e h1 h2).2.below hb⟩, h.sep⟩
theorem EdnPt.tou {lo' hi' : Nat} (h : EdnPt w lo hs es k) (ht : Tou lo' hi' w w') (hd : hi' <= lo) : EdnPt w' lo hs es k :=
 ⟨h.len, fun j x e h1 h2 => ⟨(h.one j x e h1 h2).1, (h.one j x e h1 h2).2.tou ht (fun g hg => by have := (h.one j x e h1 h2).2.lo g hg; omega)⟩, h.sep⟩
theorem EdnPt.grown {g : Nat} (h : EdnPt w lo hs es k) (hg : w.grownBy w' (some g)) (hn : ∀ x ∈ hs, x.ob ≠ some g) : EdnPt w' lo hs es k :=
 ⟨h.len, fun j x e h1 h2 => ⟨(h.one j x e h1 h2).1, World.ownsRow.kept (h.one j x e h1 h2).2 hg (.inr (hn x (List.mem_of_getElem? h1)))⟩, h.sep⟩
theorem EdnPt.ob_lt (h : EdnPt w lo hs es k) (hk : k <= es.length) {x : Edh} (hx : x ∈ hs) {g : Nat} (hg : x.ob = some g) : lo <= g /\ g < w.heap.size := by
 obtain ⟨i, hi'⟩ := List.getElem?_of_mem hx
 have hl : i < es.length := by have := (List.getElem?_eq_some_iff.1 hi').1; have := h.len; omega
 exact (h.one i x _ hi' (List.getElem?_eq_getElem hl)).2.lt g hg
theorem EdnPt.snoc (h : EdnPt w lo hs es k) (hb : Below w.heap.size w w') {e : Edn} (he : es[k]? = some e) {A : Option Addr} {n c : Nat} (ho : ClsO w' w.heap.size A n c e.cs) (hlo : lo <= w.heap.size) :
  EdnPt w' lo (hs ++ [⟨e.y, A, n, c⟩]) es (k + 1) := by
 have hk : k < es.length := (List.getElem?_eq_some_iff.1 he).1
 refine ⟨by simp [h.len], fun j x q h1 h2 => ?_, ?_⟩
 ·
  by_cases hj : j < hs.length
  ·
   rw [List.getElem?_append_left hj] at h1
   exact (h.below hb).one j x q h1 h2
  ·
   rw [List.getElem?_append_right (by omega)] at h1
   have hj2 := (List.getElem?_eq_some_iff.1 h1).1
   simp at hj2
   have : j = k := by have := h.len; omega
   subst this
   rw [he] at h2
   cases h2
   rw [h.len, Nat.sub_self] at h1
   simp at h1
   subst h1
   exact ⟨rfl, ho.mono hlo⟩
 ·
  rw [List.pairwise_append]
  refine ⟨h.sep, by simp, fun a ha b hb' g hg => ?_⟩
  simp at hb'
  subst hb'
  have h1 := (h.ob_lt (by omega) ha hg).2
  intro e2
  have h2 := ho.lo g e2
  omega
theorem EdnPt.done {lo' hi n c : Nat} {A : Option Addr} (h : EdnPt w lo hs es es.length) (hr : w.ownsRow lo' 42 2 (.slice A n c) n (hs.flatMap Edh.cells)) (hlo : lo' <= lo) (hhi : w.heap.size <= hi)
  (hA : ∀ x ∈ hs, ∀ g, x.ob = some g -> (Value.slice A n c).ownBlock ≠ some g) : EdnO w lo' hi A n c es :=
 ⟨hs, hr, h.len, fun j x e h1 h2 => ⟨(h.one j x e h1 h2).1, (h.one j x e h1 h2).2.mono hlo⟩, fun g hg => Nat.lt_of_lt_of_le (hr.lt g hg).2 hhi,
  fun x hx g hg => ⟨Nat.lt_of_lt_of_le (h.ob_lt (Nat.le_refl _) hx hg).2 hhi, hA x hx g hg⟩, h.sep⟩
end
end Go.Proofs.YtjcklmhgjdmjoaaGreat

namespace Go.Proofs.YtjcklmhgjdmjoaaGreat
open Go.ChangeShapes Go.WideShapes Go.ChangeAt Go.RowKit
set_option linter.unusedVariables false
def Edn.mks (k : Nat) : List Edn -> List Edn
 | [] => []
 | e :: es => ⟨(k : Int), Cls.marks (k + 1) e.cs.length⟩ :: Edn.mks (k + 1 + 7 * e.cs.length) es
def Edn.fin (k : Nat) (es : List Edn) : Nat := k + es.length + 7 * Edn.tot es
theorem Edn.mks_len : ∀ (es : List Edn) (k : Nat), (Edn.mks k es).length = es.length
 | [], k => rfl
 | e :: es, k => by simp [Edn.mks, Edn.mks_len es]
theorem Edn.mks_app : ∀ (ps qs : List Edn) (k : Nat), Edn.mks k (ps ++ qs) = Edn.mks k ps ++ Edn.mks (Edn.fin k ps) qs
 | [], qs, k => by simp [Edn.mks, Edn.fin, Edn.tot]
 | e :: ps, qs, k => by
  simp only [List.cons_append, Edn.mks, Edn.mks_app ps qs]
  congr 3
  simp [Edn.fin, Edn.tot]; omega
theorem Edn.step {es : List Edn} {j : Nat} {e : Edn} (h : es[j]? = some e) (k : Nat) :
  (Edn.mks k (es.take j) ++ es.drop j)[j]? = some e /\
  (Edn.mks k (es.take j) ++ es.drop j).set j ⟨(Edn.fin k (es.take j) : Nat), Cls.marks (Edn.fin k (es.take j) + 1) e.cs.length⟩ = Edn.mks k (es.take (j + 1)) ++ es.drop (j + 1) := by
 have hj := (List.getElem?_eq_some_iff.1 h).1
 have hl : (Edn.mks k (es.take j)).length = j := by rw [Edn.mks_len, List.length_take]; omega
 constructor
 ·
  rw [List.getElem?_append_right (by omega), hl, Nat.sub_self, drop_of h]; rfl
 ·
  rw [List.set_append_right _ _ (by omega), hl, Nat.sub_self, drop_of h, snoc_of h, Edn.mks_app]
  simp [Edn.mks]
theorem flat_set_y : ∀ (hs : List Edh) (j : Nat) (x : Edh) (K : Int), hs[j]? = some x -> (hs.set j { x with y := K }).flatMap Edh.cells = (hs.flatMap Edh.cells).set (j * 2) (.int .i64 K)
 | [], j, x, K, h => by simp at h
 | q :: hs, 0, x, K, h => by simp at h; subst h; simp [Edh.cells]
 | q :: hs, j + 1, x, K, h => by
  have ih := flat_set_y hs j x K (by simpa using h)
  simp only [List.set_cons_succ, List.flatMap_cons, ih]
  rw [show (j + 1) * 2 = j * 2 + 1 + 1 by omega]
  simp [Edh.cells]
section
variable {w w' : World} {lo hi : Nat} {A : Option Addr} {g n c : Nat} {hs : List Edh} {es : List Edn}
theorem EdnOw.ne (h : EdnOw w lo hi A n c hs es) {i j : Nat} {x y : Edh} (hx : hs[i]? = some x) (hy : hs[j]? = some y) (hij : i ≠ j) : ∀ b, x.ob = some b -> y.ob ≠ some b := by
 obtain ⟨hi1, rfl⟩ := List.getElem?_eq_some_iff.1 hx
 obtain ⟨hj1, rfl⟩ := List.getElem?_eq_some_iff.1 hy
 have hp := List.pairwise_iff_getElem.1 h.sep
 intro b h1 h2
 rcases Nat.lt_or_ge i j with hlt | hge
 ·
  exact hp i j hi1 hj1 hlt b h1 h2
 ·
  exact hp j i hj1 hi1 (by omega) b h2 h1
theorem EdnOw.put (h : EdnOw w lo hi (some ⟨g, 0, none⟩) n c hs es) {j : Nat} {x : Edh} {e : Edn} (hx : hs[j]? = some x) (he : es[j]? = some e) (K : Int) :
  ClsO (w.setCell ⟨g, j * 2, none⟩ (.int .i64 K)) lo x.A x.n x.c e.cs /\ Tou lo hi w (w.setCell ⟨g, j * 2, none⟩ (.int .i64 K)) /\
  ∀ w' cs', ClsO w' lo x.A x.n x.c cs' -> (w.setCell ⟨g, j * 2, none⟩ (.int .i64 K)).grownBy w' x.ob ->
   EdnOw w' lo hi (some ⟨g, 0, none⟩) n c (hs.set j { x with y := K }) (es.set j ⟨K, cs'⟩) /\ Tou lo hi w w' := by
 have S := h.row.stored (j * 2) (.int .i64 K)
 have hg := h.hiA g rfl
 have hgl := (h.row.lt g rfl).1
 have hxm := List.mem_of_getElem? hx
 have T1 : Tou lo hi w (w.setCell ⟨g, j * 2, none⟩ (.int .i64 K)) := Tou.of_grown S.2 (fun q hq => by injection hq; omega)
 have keep : ∀ (i : Nat) (y : Edh) (d : Edn), hs[i]? = some y -> es[i]? = some d -> ClsO (w.setCell ⟨g, j * 2, none⟩ (.int .i64 K)) lo y.A y.n y.c d.cs := fun i y d h1 h2 =>
  World.ownsRow.kept (h.one i y d h1 h2).2 S.2 (.inr fun e1 => (h.his y (List.mem_of_getElem? h1) g e1).2 rfl)
 refine ⟨keep j x e hx he, T1, fun w' cs' ho hgr => ⟨⟨?_, by simp [h.len], fun i y d h1 h2 => ?_, h.hiA, fun y hy q hq => ?_, ?_⟩, T1.trans (Tou.of_grown hgr fun q hq => ?_)⟩⟩
 ·
  rw [flat_set_y hs j x K hx]
  exact World.ownsRow.kept S.1 hgr (.inr fun e1 => (h.his x hxm g e1.symm).2 rfl)
 ·
  rw [List.getElem?_set] at h1 h2
  by_cases hij : j = i
  ·
   subst hij
   rw [if_pos rfl, if_pos (List.getElem?_eq_some_iff.1 hx).1] at h1
   rw [if_pos rfl, if_pos (List.getElem?_eq_some_iff.1 he).1] at h2
   cases h1; cases h2
   exact ⟨rfl, ho⟩
  ·
   rw [if_neg hij] at h1 h2
   refine ⟨(h.one i y d h1 h2).1, World.ownsRow.kept (keep i y d h1 h2) hgr ?_⟩
   cases hb : y.ob with
   | none => exact .inl hb
   | some b => exact .inr fun e1 => h.ne h1 hx (fun e2 => hij e2.symm) b hb (by rw [<- e1]; exact hb)
 ·
  rcases List.mem_or_eq_of_mem_set hy with h1 | rfl
  ·
   exact h.his y h1 q hq
  ·
   exact h.his x hxm q hq
 ·
  have hm : (hs.set j { x with y := K }).map Edh.ob = hs.map Edh.ob := by
   apply List.ext_getElem?
   intro i
   rw [List.getElem?_map, List.getElem?_map, List.getElem?_set]
   by_cases hij : j = i
   ·
    subst hij
    rw [if_pos rfl, if_pos (List.getElem?_eq_some_iff.1 hx).1, hx]; rfl
   ·
    rw [if_neg hij]
  have h1 : (hs.map Edh.ob).Pairwise (fun a b => ∀ q, a = some q -> b ≠ some q) := List.pairwise_map.2 h.sep
  rw [<- hm] at h1
  exact (List.pairwise_map (f := Edh.ob)).1 h1
 ·
  have := h.lo_mem hxm hq
  exact ⟨this.1, this.2.1⟩
end
end Go.Proofs.YtjcklmhgjdmjoaaGreat

