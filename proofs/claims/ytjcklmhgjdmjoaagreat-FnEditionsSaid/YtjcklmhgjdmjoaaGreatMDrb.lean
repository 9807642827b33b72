import Derived.Test.YtjcklmhgjdmjoaaGreatDra
import Derived.Test.YtjcklmhgjdmjoaaGreatEdc
import Derived.Test.YtjcklmhgjdmjoaaGreatMLib
import Derived.Test.YtjcklmhgjdmjoaaGreatRin
namespace Go.Proofs.YtjcklmhgjdmjoaaGreat
open Go.ChangeShapes Go.WideShapes Go.ChangeAt Go.RowKit
set_option linter.unusedVariables false
theorem own_takeS {w : World} {base : Nat} {e : TypeId} {A : Option Addr} {n c m size : Nat} {xs : List Value} (h : w.ownsRow base e size (.slice A n c) n xs) (hm : m <= n) : w.ownsRow base e size (.slice A m c) m (xs.take (m * size)) := by
 refine ⟨by rw [List.length_take, h.1]; exact Nat.min_eq_left (Nat.mul_le_mul_right _ hm), ?_⟩
 rcases h.2 with ⟨h1, h2⟩ | ⟨g, cap, cur, h1, h2, h3, h4, h5, h6, h7⟩
 ·
  injection h1 with h1 _ h8
  subst h1 h8
  exact .inl ⟨by rw [show m = 0 by omega], by omega⟩
 ·
  injection h1 with h1 _ h8
  subst h1 h8
  exact .inr ⟨g, c, cur, rfl, h2, h3, by omega, h5, h6, by rw [<- h7, List.take_take]; congr 1; exact (Nat.min_eq_left (Nat.mul_le_mul_right _ hm)).symm⟩
def lenD : Value -> Nat
 | .slice _ n _ => n
 | _ => 0
theorem flat_set_sl2 : ∀ (hs : List Edh) (j : Nat) (x : Edh) (A : Option Addr) (n c : Nat), hs[j]? = some x -> (hs.flatMap Edh.cells).set (j * 2 + 1) (.slice A n c) = (hs.set j ⟨x.y, A, n, c⟩).flatMap Edh.cells
 | [], j, x, A, n, c, h => by simp at h
 | q :: hs, 0, x, A, n, c, h => by simp at h; subst h; simp [Edh.cells]
 | q :: hs, j + 1, x, A, n, c, h => by
  have ih := flat_set_sl2 hs j x A n c (by simpa using h)
  simp only [List.set_cons_succ, List.flatMap_cons, <- ih]
  rw [show (j + 1) * 2 + 1 = j * 2 + 1 + 1 + 1 by omega]
  simp [Edh.cells]
theorem flat_set_y2 : ∀ (hs : List Edh) (j : Nat) (x : Edh) (K : Int), hs[j]? = some x -> (hs.set j { x with y := K }).flatMap Edh.cells = (hs.flatMap Edh.cells).set (j * 2) (.int .i64 K)
 | [], j, x, K, h => by simp at h
 | q :: hs, 0, x, K, h => by simp at h; subst h; simp [Edh.cells]
 | q :: hs, j + 1, x, K, h => by
  have ih := flat_set_y2 hs j x K (by simpa using h)
  simp only [List.set_cons_succ, List.flatMap_cons, ih]
  rw [show (j + 1) * 2 = j * 2 + 1 + 1 by omega]
  simp [Edh.cells]
structure DrE (w : World) (lo : Nat) (A : Option Addr) (n c : Nat) (hs : List Edh) (es : List Edn) : Prop where
 row : EdhO w lo A n c hs
 len : hs.length = es.length
 one : ∀ (k : Nat) x e, hs[k]? = some x -> es[k]? = some e -> x.y = e.y /\ x.n = e.cs.length /\ ClsO w lo x.A x.n x.c e.cs
 sep : ∀ x ∈ hs, ∀ t, x.ob = some t -> (Value.slice A n c).ownBlock ≠ some t
 bd : ∀ e ∈ es, (0 <= e.y /\ e.y <= 5000) /\ e.cs.length <= 30 /\ ∀ p ∈ e.cs, p.sz <= 100
section
variable {w w' : World} {lo n c g : Nat} {A : Option Addr} {hs : List Edh} {es : List Edn}
theorem DrE.src (h : DrE w lo A n c hs es) (hg : w.grownBy w' (some g)) (hl : g < lo) : DrE w' lo A n c hs es :=
 ⟨own_srcC h.row hg hl, h.len, fun k x e h1 h2 => ⟨(h.one k x e h1 h2).1, (h.one k x e h1 h2).2.1, own_srcC (h.one k x e h1 h2).2.2 hg hl⟩, h.sep, h.bd⟩
theorem DrE.below (h : DrE w lo A n c hs es) (hb : Below w.heap.size w w') : DrE w' lo A n c hs es :=
 ⟨h.row.below hb, h.len, fun k x e h1 h2 => ⟨(h.one k x e h1 h2).1, (h.one k x e h1 h2).2.1, (h.one k x e h1 h2).2.2.below hb⟩, h.sep, h.bd⟩
theorem DrE.mono {lo' : Nat} (h : DrE w lo A n c hs es) (hl : lo' <= lo) : DrE w lo' A n c hs es :=
 ⟨h.row.mono hl, h.len, fun k x e h1 h2 => ⟨(h.one k x e h1 h2).1, (h.one k x e h1 h2).2.1, (h.one k x e h1 h2).2.2.mono hl⟩, h.sep, h.bd⟩
theorem DrE.num (h : DrE w lo A n c hs es) : n = es.length := by rw [<- h.len]; exact h.row.len.symm
theorem DrE.reads (h : DrE w lo A n c hs es) : EdnR w A es := ednR_of_hs h.row.row ⟨h.len, fun k x e h1 h2 => ⟨(h.one k x e h1 h2).1, (h.one k x e h1 h2).2.1, (h.one k x e h1 h2).2.2.row⟩⟩
theorem DrE.cap (h : DrE w lo A n c hs es) : n <= c := own_roomC h.row
theorem DrE.ltblC (h : DrE w lo A n c hs es) (hl : es.length <= 100) : LTblC w A c es :=
 ⟨⟨h.reads, fun e he p hp => by have := (h.bd e he).2.2 p hp; omega, fun e he => by have := (h.bd e he).2.1; omega, by omega⟩, by rw [<- h.num]; exact h.cap⟩
theorem DrE.nil (w : World) (lo : Nat) (A : Option Addr) (c : Nat) (h : EdhO w lo A 0 c []) : DrE w lo A 0 c [] [] := ⟨h, rfl, fun k x e h1 => (by simp at h1), fun x hx => (by cases hx), fun e he => (by cases he)⟩
theorem DrE.push {O' : Option Addr} {q' m d : Nat} {y : Int} {B : Option Addr} {cs : List Cls} (h : DrE w lo A n c hs es) (hrow : w'.ownsRow lo 42 2 (.slice O' (n + 1) q') (n + 1) (hs.flatMap Edh.cells ++ [.int .i64 y, .slice B m d]))
  (hg : w.grownBy w' (Value.slice A n c).ownBlock) (hk : (Value.slice O' (n + 1) q').ownBlock = (Value.slice A n c).ownBlock ∨ ∃ k, w.heap.size <= k /\ (Value.slice O' (n + 1) q').ownBlock = some k)
  (hB : ClsO w lo B m d cs) (hs2 : ∀ t, (Value.slice B m d).ownBlock = some t -> (Value.slice A n c).ownBlock ≠ some t) (hm : m = cs.length) (hy : 0 <= y /\ y <= 5000) (hc : cs.length <= 30) (ht : ∀ p ∈ cs, p.sz <= 100) :
  DrE w' lo O' (n + 1) q' (hs ++ [⟨y, B, m, d⟩]) (es ++ [⟨y, cs⟩]) := by
 have kept : ∀ {A' : Option Addr} {n' c' : Nat} {ds : List Cls}, ClsO w lo A' n' c' ds -> (∀ t, (Value.slice A' n' c').ownBlock = some t -> (Value.slice A n c).ownBlock ≠ some t) -> ClsO w' lo A' n' c' ds := fun {A' n' c' ds} ho hq =>
  World.ownsRow.kept ho hg (by
   cases hb : (Value.slice A' n' c').ownBlock with
   | none => exact .inl rfl
   | some t => exact .inr fun e1 => hq t hb e1.symm)
 have fresh : ∀ {A' : Option Addr} {n' c' : Nat} {ds : List Cls}, ClsO w lo A' n' c' ds -> (∀ t, (Value.slice A' n' c').ownBlock = some t -> (Value.slice A n c).ownBlock ≠ some t) -> ∀ t, (Value.slice A' n' c').ownBlock = some t -> (Value.slice O' (n + 1) q').ownBlock ≠ some t := fun {A' n' c' ds} ho hq t ht e => by
  rcases hk with hk | ⟨k, k1, k2⟩
  ·
   exact hq t ht (hk.symm.trans e)
  ·
   have := (World.ownsRow.lt ho t ht).2
   rw [k2] at e; injection e with e; omega
 have hl := h.len
 refine ⟨?_, by simp [hl], fun k x e h1 h2 => ?_, fun x hx t hxt => ?_, fun e he => ?_⟩
 ·
  unfold EdhO; rw [List.flatMap_append]; simpa [Edh.cells] using hrow
 ·
  by_cases hkl : k < hs.length
  ·
   rw [List.getElem?_append_left hkl] at h1
   rw [List.getElem?_append_left (by omega)] at h2
   have := h.one k x e h1 h2
   exact ⟨this.1, this.2.1, kept this.2.2 (h.sep x (List.mem_of_getElem? h1))⟩
  ·
   rw [List.getElem?_append_right (by omega)] at h1
   rw [List.getElem?_append_right (by omega), <- hl] at h2
   cases hkk : k - hs.length with
   | zero => rw [hkk] at h1 h2; cases h1; cases h2; exact ⟨rfl, hm, kept hB hs2⟩
   | succ j => rw [hkk] at h1; simp at h1
 ·
  rcases List.mem_append.1 hx with hx | hx
  ·
   obtain ⟨i, hi⟩ := List.getElem?_of_mem hx
   have hie : i < es.length := by rw [<- hl]; exact (List.getElem?_eq_some_iff.1 hi).1
   exact fresh (h.one i x _ hi (List.getElem?_eq_getElem hie)).2.2 (h.sep x hx) t hxt
  ·
   obtain rfl := List.mem_singleton.1 hx
   exact fresh hB hs2 t hxt
 ·
  rcases List.mem_append.1 he with he | he
  ·
   exact h.bd e he
  ·
   obtain rfl := List.mem_singleton.1 he
   exact ⟨hy, hc, ht⟩
theorem DrE.setC {gO k m d : Nat} {x : Edh} {e : Edn} {B : Option Addr} {cs : List Cls} (h : DrE w lo (some ⟨gO, 0, none⟩) n c hs es) (hx : hs[k]? = some x) (he : es[k]? = some e) (hB : ClsO w lo B m d cs) (hs2 : ∀ t, (Value.slice B m d).ownBlock = some t -> t ≠ gO) (hm : m = cs.length) (hc : cs.length <= 30) (ht : ∀ p ∈ cs, p.sz <= 100) :
  DrE (w.setCell ⟨gO, k * 2 + 1, none⟩ (.slice B m d)) lo (some ⟨gO, 0, none⟩) n c (hs.set k ⟨x.y, B, m, d⟩) (es.set k ⟨e.y, cs⟩) := by
 have S := World.ownsRow.stored h.row (k * 2 + 1) (.slice B m d)
 have kept : ∀ {A' : Option Addr} {n' c' : Nat} {ds : List Cls}, ClsO w lo A' n' c' ds -> (∀ t, (Value.slice A' n' c').ownBlock = some t -> t ≠ gO) -> ClsO (w.setCell ⟨gO, k * 2 + 1, none⟩ (.slice B m d)) lo A' n' c' ds := fun {A' n' c' ds} ho hq =>
  World.ownsRow.kept ho S.2 (by
   cases hb : (Value.slice A' n' c').ownBlock with
   | none => exact .inl rfl
   | some t => exact .inr fun e1 => hq t hb (by injection e1))
 have hsep : ∀ z ∈ hs, ∀ t, z.ob = some t -> t ≠ gO := fun z hz t hzt e => h.sep z hz t hzt (by rw [e]; rfl)
 refine ⟨?_, by simp [h.len], fun j z d' h1 h2 => ?_, fun z hz t hzt e => ?_, fun d' hd => ?_⟩
 ·
  have h1 := S.1
  rw [flat_set_sl2 hs k x B m d hx] at h1
  exact h1
 ·
  rw [List.getElem?_set] at h1 h2
  by_cases hkj : k = j
  ·
   subst hkj
   rw [if_pos rfl, if_pos (List.getElem?_eq_some_iff.1 hx).1] at h1
   rw [if_pos rfl, if_pos (List.getElem?_eq_some_iff.1 he).1] at h2
   cases h1; cases h2
   exact ⟨(h.one k x e hx he).1, hm, kept hB hs2⟩
  ·
   rw [if_neg hkj] at h1 h2
   have := h.one j z d' h1 h2
   exact ⟨this.1, this.2.1, kept this.2.2 (hsep z (List.mem_of_getElem? h1))⟩
 ·
  rcases List.mem_or_eq_of_mem_set hz with h1 | rfl
  ·
   exact h.sep z h1 t hzt e
  ·
   exact hs2 t hzt (by simp [Value.ownBlock] at e; exact e.symm)
 ·
  rcases List.mem_or_eq_of_mem_set hd with h1 | rfl
  ·
   exact h.bd d' h1
  ·
   exact ⟨(h.bd e (List.mem_of_getElem? he)).1, hc, ht⟩
theorem DrE.setY {gO k : Nat} {x : Edh} {e : Edn} {y : Int} (h : DrE w lo (some ⟨gO, 0, none⟩) n c hs es) (hx : hs[k]? = some x) (he : es[k]? = some e) (hy : 0 <= y /\ y <= 5000) :
  DrE (w.setCell ⟨gO, k * 2, none⟩ (.int .i64 y)) lo (some ⟨gO, 0, none⟩) n c (hs.set k { x with y := y }) (es.set k ⟨y, e.cs⟩) := by
 have S := World.ownsRow.stored h.row (k * 2) (.int .i64 y)
 have hsep : ∀ z ∈ hs, ∀ t, z.ob = some t -> t ≠ gO := fun z hz t hzt e => h.sep z hz t hzt (by rw [e]; rfl)
 have kept : ∀ (z : Edh) (ds : List Cls), z ∈ hs -> ClsO w lo z.A z.n z.c ds -> ClsO (w.setCell ⟨gO, k * 2, none⟩ (.int .i64 y)) lo z.A z.n z.c ds := fun z ds hz ho =>
  World.ownsRow.kept ho S.2 (by
   cases hb : (Value.slice z.A z.n z.c).ownBlock with
   | none => exact .inl rfl
   | some t => exact .inr fun e1 => hsep z hz t hb (by injection e1))
 refine ⟨?_, by simp [h.len], fun j z d' h1 h2 => ?_, fun z hz t hzt e => ?_, fun d' hd => ?_⟩
 ·
  have h1 := S.1
  rw [<- flat_set_y2 hs k x y hx] at h1
  exact h1
 ·
  rw [List.getElem?_set] at h1 h2
  by_cases hkj : k = j
  ·
   subst hkj
   rw [if_pos rfl, if_pos (List.getElem?_eq_some_iff.1 hx).1] at h1
   rw [if_pos rfl, if_pos (List.getElem?_eq_some_iff.1 he).1] at h2
   cases h1; cases h2
   exact ⟨rfl, (h.one k x e hx he).2.1, kept x e.cs (List.mem_of_getElem? hx) (h.one k x e hx he).2.2⟩
  ·
   rw [if_neg hkj] at h1 h2
   have := h.one j z d' h1 h2
   exact ⟨this.1, this.2.1, kept z d'.cs (List.mem_of_getElem? h1) this.2.2⟩
 ·
  rcases List.mem_or_eq_of_mem_set hz with h1 | rfl
  ·
   exact h.sep z h1 t hzt e
  ·
   exact h.sep x (List.mem_of_getElem? hx) t hzt e
 ·
  rcases List.mem_or_eq_of_mem_set hd with h1 | rfl
  ·
   exact h.bd d' h1
  ·
   exact ⟨hy, (h.bd e (List.mem_of_getElem? he)).2⟩
end
def NewED (w : World) (base g : Nat) (A : Option Addr) (c : Nat) (bs : List Int) (e : Ending) (w' : World) : Prop :=
 ∃ B d hs es, e = .returned (.slice B (List.length es) d) /\ es.length <= 8 /\ DrE w' w.heap.size B es.length d hs es /\ Src w' base g A c bs /\ w.grownBy w' (some g)
set_option maxRecDepth 100000 in
set_option maxHeartbeats 32000000 in
theorem draw_e (g : Nat) (base : Nat) (A : Option Addr) (c : Nat) (bs : List Int) (w : World) (h : Src w base g A c bs) :
  Calls Tryz.prog 43 #[.pointer (some ⟨g, 0, none⟩)] w (NewED w base g A c bs) := by
 obtain ⟨i0, hi, hz0, hz1, hz2⟩ := info_parts ednInfo
 have hgl := h.lt
 have S0 := h.alloc (.cells #[] 42)
 have G0 := World.grownBy_alloc w (.cells #[] 42) (some g)
 have O0 : EdhO (w.alloc (.cells #[] 42)) w.heap.size (some ⟨w.heap.size, 0, none⟩) 0 0 [] := made0H _ _ _ _ (Nat.le_refl _)
 have D0 := DrE.nil _ _ _ _ O0
 clear h O0
 go_enter Tryz.func43, Tryz.ntmps43
 go_wp2_with fail
 refine (next_any g 20 base A c bs _ S0 (by omega)).mono ?_
 rintro e w1 ⟨r, rfl, r0, r1, h1, g1⟩
 have D1 := D0.src g1 hgl
 have G1 := G0.trans g1
 clear S0 G0 D0 g1
 go_wp2_with fail
 refine (next_any g 4 base A c bs _ h1 (by omega)).mono ?_
 rintro e w2 ⟨r', rfl, q0, q1, h2, g2⟩
 have D2 := D1.src g2 hgl
 have G2 := G1.trans g2
 clear h1 D1 G1 g2
 go_wp2_with fail
 go_loopw [3, 4, 5] (fun v yv nv wr => ∃ (O : Option Addr) (q : Nat) (hs : List Edh) (es : List Edn) (y n : Int), v = .slice O es.length q /\ yv = .int .i64 y /\ nv = .int .i64 n /\ 0 <= n /\ (es.length : Int) + n <= 4 /\ 1 <= (es.length : Int) + n /\ 1974 <= y /\ y <= 1993 + 20 * es.length /\
  Hid (DrE wr w.heap.size O es.length q hs es) /\ Hid (Src wr base g A c bs) /\ Hid (w.grownBy wr (some g))) (fun _ _ nv _ => (intOf nv).toNat)
 case atStart => exact ⟨_, 0, [], [], _, _, rfl, rfl, rfl, by omega, by simp; omega, by simp; omega, by omega, by simp; omega, Lib.hid D2, Lib.hid h2, Lib.hid G2⟩
 case round =>
  clear D2 h2 G2
  obtain ⟨O, q, hs, es, y, n, rfl, rfl, rfl, hn0, hn4, hn1, hy0, hy1, HD, HS, HG⟩ := hrel
  by_cases hn : 0 < n
  ·
   have dn : decide (0 < n) = true := decide_eq_true hn
   go_wp2_with fail
   refine (valid_c g base A c bs _ HS.out).mono ?_
   rintro e w3 ⟨B, d, ps, rfl, hp1, hp6, o3, hd3, h3, g3⟩
   have D3 := HD.out.src g3 hgl
   have G3 := HG.out.trans g3
   have hsz := G3.size
   have o3m : ClsO w3 w.heap.size B ps.length d ps := o3.mono HG.out.size
   have hsep : ∀ t, (Value.slice B ps.length d).ownBlock = some t -> (Value.slice O es.length q).ownBlock ≠ some t := fun t ht e => by
    have a1 := (World.ownsRow.lt o3 t ht).1
    have a2 := (World.ownsRow.lt HD.out.row t e).2
    omega
   have htx : ∀ p ∈ ps, p.sz <= 100 := fun p hp => by have := hd3 p hp; unfold Dcv at this; unfold Cls.sz; omega
   have own := D3.row
   have hne := D3.num
   unfold EdhO at own
   have hl8 : es.length <= 8 := by omega
   go_wp2_with (at_builtin; refine wpList_push2 _ rfl (.tmp 18) (.tmp 23) 36 rfl w.heap.size 42 i0 _ 2 32 Tryz.underlying36 hi hz0 hz1 hz2 rfl (by decide) (.slice O es.length q) es.length _ rfl own [.int .i64 y, .slice B ps.length d] rfl (by simp [Value.oneCell']) rfl (by unfold maxLen; omega) (by omega) hsz ?_; intro v' w4 hown' hg' hk'; obtain ⟨O', q', rfl⟩ := own_form hown'; have D4 := D3.push hown' hg' hk' o3m hsep rfl (by omega) (by omega) htx; have bW : Below w.heap.size w3 w4 := (Below.refl _ _).grown hg' hsz (fun t e => (World.ownsRow.lt own t e).1); have h4 := h3.keep (bW.mono (by omega)); have G4 := grown_below G3 bW; clear own hown' hg' hk' D3 h3 G3 o3 o3m)
   refine (next_any g 20 base A c bs _ h4 (by omega)).mono ?_
   rintro e w5 ⟨r, rfl, r0, r1, h5, g5⟩
   have D5 := D4.src g5 hgl
   have G5 := G4.trans g5
   clear D4 G4 h4 g5
   go_wp2_with fail
   go_roundw
   case rel => exact ⟨O', q', hs ++ [⟨y, B, ps.length, d⟩], es ++ [⟨y, ps⟩], y + 1 + r, n - 1, by simp, rfl, rfl, by omega, by simp; omega, by simp; omega, by omega, by simp; omega, Lib.hid (by simpa using D5), Lib.hid h5, Lib.hid G5⟩
   case measure => simp [intOf]; omega
  ·
   have dn : decide (0 < n) = false := decide_eq_false hn
   obtain rfl : n = 0 := by omega
   have he1 : 1 <= es.length := by omega
   have he4 : es.length <= 4 := by omega
   obtain ⟨gO, hO⟩ : ∃ gO, O = some ⟨gO, 0, none⟩ := by
    rcases HD.out.row.2 with ⟨_, e2⟩ | ⟨t, _, _, e, _⟩
    ·
     omega
    ·
     injection e with e; exact ⟨t, e⟩
   subst hO
   have hgO := (World.ownsRow.lt HD.out.row gO rfl).1
   clear hn dn hn0 hn4 hn1
   go_wp2_with fail
   refine (next_any g _ base A c bs _ HS.out (by omega)).mono ?_
   rintro e w3 ⟨r, rfl, r0, r1, h3, g3⟩
   obtain ⟨k, rfl⟩ := Int.eq_ofNat_of_zero_le r0
   have hk : k < es.length := by omega
   have D3 := HD.out.src g3 hgl
   have G3 := HG.out.trans g3
   clear HD HS HG g3 r0 r1
   go_wp2_with fail
   refine (next_any g 24 base A c bs _ h3 (by omega)).mono ?_
   rintro e w4 ⟨r', rfl, q0, q1, h4, g4⟩
   have D4 := D3.src g4 hgl
   have G4 := G3.trans g4
   clear D3 h3 G3 g4
   obtain ⟨x, hx⟩ : ∃ x, hs[k]? = some x := ⟨_, List.getElem?_eq_getElem (by rw [D4.len]; exact hk)⟩
   obtain ⟨e, he⟩ : ∃ e, es[k]? = some e := ⟨_, List.getElem?_eq_getElem hk⟩
   rcases (by omega : r' = 0 ∨ r' = 1 ∨ r' = 2 ∨ r' = 3 ∨ 4 <= r') with rfl | rfl | rfl | rfl | h5
   ·
    go_wp2_with fail
    refine (draw_c g base A c bs _ h4).mono ?_
    rintro e' w5 ⟨B, d, ps, rfl, hp30, o5, ht5, h5, g5⟩
    have D5 := D4.src g5 hgl
    have G5 := G4.trans g5
    have hsep : ∀ t, (Value.slice B ps.length d).ownBlock = some t -> t ≠ gO := fun t ht e => by
     have a1 := (World.ownsRow.lt o5 t ht).1
     have a2 := (World.ownsRow.lt D4.row gO rfl).2
     omega
    have hl := flat_len Edh.cells 2 (fun _ => rfl) hs
    have hsl := D5.len
    obtain ⟨v0, z0⟩ := own_at D5.row (k * 2 + 1) (by omega)
    have f0 := World.ownsRow.frozenAt D5.row (k * 2 + 1)
    have D6 := Lib.hid (D5.setC hx he (o5.mono G4.size) hsep rfl hp30 ht5)
    obtain ⟨S6, G6⟩ := put_src h5 G5 (C := gO) (by omega) hgO (k * 2 + 1) (.slice B ps.length d)
    have S6h := Lib.hid S6
    have G6h := Lib.hid G6
    clear D4 D5 h4 G4 h5 G5 g5 o5 S6 G6 hl hsl
    go_wp2_with fail
    go_ret
    exact ⟨some ⟨gO, 0, none⟩, q, _, es.set k ⟨e.y, ps⟩, by rw [List.length_set]; rfl, by rw [List.length_set]; omega, by rw [List.length_set]; exact D6.out, S6h.out, G6h.out⟩
   ·
    go_wp2_with fail
    refine (pick_new g 4 [1969, 1970, 2069, 2070] 1969 2070 base A c bs w4 h4 rfl (by decide) (by decide) (by decide)).mono ?_
    rintro e' w5 ⟨r, rfl, r0, r1, h5, g5⟩
    have D5 := D4.src g5 hgl
    have G5 := G4.trans g5
    have hl := flat_len Edh.cells 2 (fun _ => rfl) hs
    have hsl := D5.len
    obtain ⟨v0, z0⟩ := own_at D5.row (k * 2) (by omega)
    have f0 := World.ownsRow.frozenAt D5.row (k * 2)
    have D6 := Lib.hid (D5.setY (y := r) hx he (by omega))
    obtain ⟨S6, G6⟩ := put_src h5 G5 (C := gO) (by omega) hgO (k * 2) (.int .i64 r)
    have S6h := Lib.hid S6
    have G6h := Lib.hid G6
    clear D4 D5 h4 G4 h5 G5 g5 S6 G6 hl hsl
    go_wp2_with fail
    go_ret
    exact ⟨some ⟨gO, 0, none⟩, q, _, es.set k ⟨r, e.cs⟩, by rw [List.length_set]; rfl, by rw [List.length_set]; omega, by rw [List.length_set]; exact D6.out, S6h.out, G6h.out⟩
   ·
    have D5 := Lib.hid (DrE.nil w4 w.heap.size (some ⟨gO, 0, none⟩) q (by have := own_takeS D4.row (Nat.zero_le _); simpa [EdhO] using this))
    have hcap := D4.cap
    have h4h := Lib.hid h4
    have G4h := Lib.hid G4
    clear D4 h4 G4
    go_wp2_with fail
    go_ret
    exact ⟨_, q, [], [], rfl, by simp, D5.out, h4h.out, G4h.out⟩
   ·
    clear hx he hk
    go_wp2_with fail
    go_loopw [3, 4] (fun v yv wr => ∃ (O : Option Addr) (q : Nat) (hs : List Edh) (es : List Edn) (y : Int), v = .slice O es.length q /\ yv = .int .i64 y /\ 1 <= es.length /\ es.length <= 7 /\ 1974 <= y /\ y <= 2100 + es.length /\
     Hid (DrE wr w.heap.size O es.length q hs es) /\ Hid (Src wr base g A c bs) /\ Hid (w.grownBy wr (some g))) (fun v _ _ => 8 - lenD v)
    case atStart => exact ⟨_, q, hs, es, y, rfl, rfl, by omega, by omega, by omega, by omega, Lib.hid D4, Lib.hid h4, Lib.hid G4⟩
    case round =>
     clear D4 h4 G4 he1 he4 hy0 hy1 hgO
     obtain ⟨O, q, hs, es, y, rfl, rfl, he1, he7, hy0, hy1, HD, HS, HG⟩ := hrel
     go_wp2_with fail
     refine (next_any g 2 base A c bs _ HS.out (by omega)).mono ?_
     rintro e' w5 ⟨r, rfl, r0, r1, h5, g5⟩
     have D5 := HD.out.src g5 hgl
     have G5 := HG.out.trans g5
     clear HD HS HG g5
     by_cases hc : (es.length : Int) < 6 + r
     ·
      have dc : decide ((es.length : Int) < 6 + r) = true := decide_eq_true hc
      obtain ⟨gO, hO⟩ : ∃ gO, O = some ⟨gO, 0, none⟩ := by
       rcases D5.row.2 with ⟨_, e2⟩ | ⟨t, _, _, e, _⟩
       ·
        omega
       ·
        injection e with e; exact ⟨t, e⟩
      subst hO
      obtain ⟨x, hx⟩ : ∃ x, hs[0]? = some x := ⟨_, List.getElem?_eq_getElem (by rw [D5.len]; omega)⟩
      obtain ⟨e, he⟩ : ∃ e, es[0]? = some e := ⟨_, List.getElem?_eq_getElem (by omega)⟩
      obtain ⟨x1, x2, x3⟩ := D5.one 0 x e hx he
      obtain ⟨xy, xA, xn, xc⟩ := x
      obtain rfl : xy = e.y := x1
      obtain rfl : xn = e.cs.length := x2
      have hl := flat_len Edh.cells 2 (fun _ => rfl) hs
      have hsl := D5.len
      have z1 : w5.cell? ⟨gO, 1, none⟩ = some (.slice xA e.cs.length xc) := by
       have := World.ownsRow.cellAt D5.row 1 (by omega)
       rw [this]; exact flat_at Edh.cells 2 (fun _ => rfl) hs 0 1 _ hx (by decide)
      have own := D5.row
      unfold EdhO at own
      have hsz := G5.size
      have hb := D5.bd e (List.mem_of_getElem? he)
      have hsp := D5.sep _ (List.mem_of_getElem? hx)
      have hi0 : (0 : Int) < (es.length : Int) := by omega
      have hi1 : 0 < es.length := by omega
      go_wp2_with (at_builtin; refine wpList_push2 _ rfl (.tmp 65) (.tmp 72) 36 rfl w.heap.size 42 i0 _ 2 32 Tryz.underlying36 hi hz0 hz1 hz2 rfl (by decide) (.slice (some ⟨gO, 0, none⟩) es.length q) es.length _ rfl own [.int .i64 y, .slice xA e.cs.length xc] rfl (by simp [Value.oneCell']) rfl (by unfold maxLen; omega) (by omega) hsz ?_; intro v' w6 hown' hg' hk'; obtain ⟨O', q', rfl⟩ := own_form hown'; have D6 := D5.push hown' hg' hk' x3 hsp rfl (by omega) hb.2.1 hb.2.2; have bW : Below w.heap.size w5 w6 := (Below.refl _ _).grown hg' hsz (fun t e => (World.ownsRow.lt own t e).1); have h6 := h5.keep (bW.mono (by omega)); have G6 := grown_below G5 bW; clear own hown' hg' hk' D5 h5 G5)
      go_roundw
      case rel => exact ⟨O', q', hs ++ [⟨y, xA, e.cs.length, xc⟩], es ++ [⟨y, e.cs⟩], y + 1, by simp, rfl, by simp, by simp; omega, by omega, by simp; omega, Lib.hid (by simpa using D6), Lib.hid h6, Lib.hid G6⟩
      case measure => simp [lenD]; omega
     ·
      have dc : decide ((es.length : Int) < 6 + r) = false := decide_eq_false hc
      have hl8 : es.length <= 8 := by omega
      clear hc
      go_wp2_with fail
      go_ret
      exact ⟨O, q, hs, es, rfl, hl8, D5, h5, G5⟩
   ·
    have e0 : (r' == 0) = false := beq_eq_false_iff_ne.2 (by omega)
    have e1 : (r' == 1) = false := beq_eq_false_iff_ne.2 (by omega)
    have e2 : (r' == 2) = false := beq_eq_false_iff_ne.2 (by omega)
    have e3 : (r' == 3) = false := beq_eq_false_iff_ne.2 (by omega)
    clear hx he
    go_wp2_with fail
    go_ret
    exact ⟨_, q, hs, es, rfl, by omega, D4, h4, G4⟩
end Go.Proofs.YtjcklmhgjdmjoaaGreat

namespace Go.Proofs.YtjcklmhgjdmjoaaGreat
open Go.ChangeShapes Go.WideShapes Go.ChangeAt Go.RowKit
set_option linter.unusedVariables false
def frDy (us : Nat -> Value) : Act := { tmps := #[us 0, us 1, us 2, us 3, us 4, us 5, us 6, us 7, us 8, us 9, us 10, us 11, us 12, us 13, us 14, us 15, us 16, us 17, us 18, us 19, us 20, us 21, us 22, us 23, us 24, us 25, us 26, us 27], defers := [] }
theorem frDy_of {x0 x1 x2 x3 x4 x5 x6 x7 x8 x9 x10 x11 x12 x13 x14 x15 x16 x17 x18 x19 x20 x21 x22 x23 x24 x25 x26 x27 : Value} : ({ tmps := #[x0, x1, x2, x3, x4, x5, x6, x7, x8, x9, x10, x11, x12, x13, x14, x15, x16, x17, x18, x19, x20, x21, x22, x23, x24, x25, x26, x27], defers := [] } : Act) = frDy (fun k => #[x0, x1, x2, x3, x4, x5, x6, x7, x8, x9, x10, x11, x12, x13, x14, x15, x16, x17, x18, x19, x20, x21, x22, x23, x24, x25, x26, x27].getD k undef) := rfl
structure InvDy (base g : Nat) (A : Option Addr) (c : Nat) (bs : List Int) (gO nn q : Nat) (w1 w : World) (d : Array Bool) (us : Nat -> Value) (W : World) : Prop where
 u0 : us 0 = .pointer (some ⟨g, 0, none⟩)
 u1 : us 1 = .slice (some ⟨gO, 0, none⟩) nn q
 src : Src W base g A c bs
 gr1 : w1.grownBy W (some g)
 gro : d.getD 12 false = false -> w.grownBy W (some g)
 o0 : d.getD 0 false = true -> d.getD 12 false = false -> us 13 = .slice (some ⟨gO, 0, none⟩) nn q
 o1 : d.getD 1 false = true -> d.getD 12 false = false -> us 14 = .pointer (some ⟨g, 0, none⟩)
 o2 : d.getD 2 false = true -> d.getD 12 false = false -> us 15 = .slice (some ⟨gO, 0, none⟩) nn q
 o3 : d.getD 3 false = true -> d.getD 12 false = false -> us 16 = .int .i64 (nn : Int)
 o4 : d.getD 4 false = true -> d.getD 12 false = false -> ∃ z : Int, us 17 = .int .i64 z /\ 0 <= z /\ z <= ((nn : Int) - 1)
 o5 : d.getD 5 false = true -> d.getD 12 false = false -> ∃ (z : Nat), us 18 = .pointer (some ⟨gO, z * 2, none⟩) /\ z < nn
 o6 : d.getD 6 false = true -> d.getD 12 false = false -> ∃ (z : Nat), us 19 = .pointer (some ⟨gO, z * 2, none⟩) /\ z < nn
 o7 : d.getD 7 false = true -> d.getD 12 false = false -> ∃ (y : Int), us 20 = .int .i64 y /\ 0 <= y /\ y <= 5000
 o8 : d.getD 8 false = true -> d.getD 12 false = false -> us 21 = .pointer (some ⟨g, 0, none⟩)
 o9 : d.getD 9 false = true -> d.getD 12 false = false -> ∃ (B : Nat), us 22 = .slice (some ⟨B, 0, none⟩) 5 5 /\ W.heap[B]? = some (.cells #[.int .i64 0, .int .i64 0, .int .i64 0, .int .i64 1, .int .i64 (-1)] 2 (0, 0)) /\ B ≠ g /\ w.heap.size <= B
 o10 : d.getD 10 false = true -> d.getD 12 false = false -> ∃ z : Int, us 23 = .int .i64 z /\ (-1) <= z /\ z <= 1
 o11 : d.getD 11 false = true -> d.getD 12 false = false -> ∃ (y : Int), us 24 = .int .i64 y /\ -1 <= y /\ y <= 5001
 o12 : d.getD 12 false = true -> ∃ y : Int, us 4 = .int .i64 y /\ -1 <= y /\ y <= 5001 /\ w.grownBy W (some g)
def NewY (w : World) (base g : Nat) (A : Option Addr) (c : Nat) (bs : List Int) (e : Ending) (w' : World) : Prop :=
 ∃ y : Int, e = .returned (.int .i64 y) /\ -1 <= y /\ y <= 5001 /\ Src w' base g A c bs /\ w.grownBy w' (some g)
set_option maxRecDepth 100000 in
set_option maxHeartbeats 16000000 in
theorem year_e (g : Nat) (base : Nat) (A : Option Addr) (c : Nat) (bs : List Int) (w1 : World) (h : Src w1 base g A c bs) (lo nn q : Nat) (O : Option Addr) (hs : List Edh) (es : List Edn) (D : DrE w1 lo O nn q hs es) (hgl : g < lo) (hn8 : nn <= 8) :
  Calls Tryz.prog 44 #[.pointer (some ⟨g, 0, none⟩), .slice O nn q] w1 (NewY w1 base g A c bs) := by
 by_cases h0 : nn = 0
 ·
  subst h0
  clear D
  go_enter Tryz.func44, Tryz.ntmps44
  go_wp2_with fail
  refine (next_any g 100 base A c bs _ h (by omega)).mono ?_
  rintro e w2 ⟨r, rfl, r0, r1, h2, g2⟩
  clear h
  go_wp2_with fail
  go_ret
  exact ⟨_, rfl, by omega, by omega, h2, g2⟩
 ·
  obtain ⟨gO, hO⟩ : ∃ gO, O = some ⟨gO, 0, none⟩ := by
   rcases D.row.2 with ⟨_, e2⟩ | ⟨t, _, _, e, _⟩
   ·
    omega
   ·
    injection e with e; exact ⟨t, e⟩
  subst hO
  have hgO := (World.ownsRow.lt D.row gO rfl).1
  have hnn := D.num
  have YR := Lib.hid (fun (W : World) (hg : w1.grownBy W (some g)) (z : Nat) (hz : z < nn) => show ∃ yy : Int, W.cell? ⟨gO, z * 2, none⟩ = some (.int .i64 yy) /\ 0 <= yy /\ yy <= 5000 from by
   have D2 := D.src hg hgl
   have hl := flat_len Edh.cells 2 (fun _ => rfl) hs
   have hsl := D2.len
   obtain ⟨x, hx⟩ : ∃ x, hs[z]? = some x := ⟨_, List.getElem?_eq_getElem (by omega)⟩
   obtain ⟨e, he⟩ : ∃ e, es[z]? = some e := ⟨_, List.getElem?_eq_getElem (by omega)⟩
   obtain ⟨x1, _⟩ := D2.one z x e hx he
   refine ⟨x.y, ?_, by have := D2.bd e (List.mem_of_getElem? he); omega⟩
   have := World.ownsRow.cellAt D2.row (z * 2) (by omega)
   rw [this]; exact flat_at Edh.cells 2 (fun _ => rfl) hs z 0 x hx (by decide))
  have dn : decide ((0 : Int) < (nn : Int)) = true := decide_eq_true (by omega)
  clear D hnn
  go_enter Tryz.func44, Tryz.ntmps44
  go_wp2_with fail
  refine (next_any g 3 base A c bs _ h (by omega)).mono ?_
  rintro e wq ⟨r, rfl, r0, r1, hsq, hg1q⟩
  have YR := Lib.hid (fun (W : World) (hg : wq.grownBy W (some g)) (z : Nat) (hz : z < nn) => YR.out W (hg1q.trans hg) z hz)
  by_cases hr : 0 < r
  ·
   have dr : decide (0 < r) = true := decide_eq_true hr
   clear h
   go_wp2_with fail
   refine region_inv2 (by kernel_rfl) (by kernel_rfl) (fun d' a' W => ∃ us, a' = frDy us /\ InvDy base g A c bs gO nn q w1 wq d' us W) ?_ ?_ ?_
   ·
    refine ⟨_, frDy_of, ?_⟩
    have Z : ∀ k, (Array.replicate 13 false).getD k false = false := fun k => by
     rcases Nat.lt_or_ge k 13 with h | h
     ·
      simp [h]
     ·
      simp [Array.getElem?_eq_none, h]
    have Zn : ∀ {k : Nat} {p : Prop}, (Array.replicate 13 false).getD k false = true -> p := fun {k p} h => by rw [Z k] at h; cases h
    exact { u0 := rfl, u1 := rfl, src := hsq, gr1 := ⟨hg1q.os, hg1q.tape, hg1q.output, hg1q.size, hg1q.block⟩, gro := fun _ => ⟨rfl, rfl, rfl, Nat.le_refl _, fun _ _ _ => rfl⟩, o0 := fun h _ => Zn h, o1 := fun h _ => Zn h, o2 := fun h _ => Zn h, o3 := fun h _ => Zn h, o4 := fun h _ => Zn h, o5 := fun h _ => Zn h, o6 := fun h _ => Zn h, o7 := fun h _ => Zn h, o8 := fun h _ => Zn h, o9 := fun h _ => Zn h, o10 := fun h _ => Zn h, o11 := fun h _ => Zn h, o12 := Zn }
   ·
    intro i d' a' W hi hcl hI
    obtain ⟨hun, oi, hoi, hall⟩ := mem_ready.1 hi
    have hlt : i < 13 := (Array.getElem?_eq_some_iff.1 hoi).1
    obtain ⟨us, rfl, I⟩ := hI
    have hs := I.src
    have hgW := hs.lt
    have e0 := I.u0
    have e1 := I.u1
    rcases (by omega : i = 0 ∨ i = 1 ∨ i = 2 ∨ i = 3 ∨ i = 4 ∨ i = 5 ∨ i = 6 ∨ i = 7 ∨ i = 8 ∨ i = 9 ∨ i = 10 ∨ i = 11 ∨ i = 12) with rfl | rfl | rfl | rfl | rfl | rfl | rfl | rfl | rfl | rfl | rfl | rfl | rfl
    all_goals
     obtain rfl := Option.some.inj hoi
     clear hoi hlt hi
    ·
     skip
     have DO : ∀ n, 0 ≠ n -> (d'.setIfInBounds 0 true).getD n false = d'.getD n false := fun n h => getD_set_ne false h
     have D0 : (d'.setIfInBounds 0 true).getD 0 false = true := setB_same hun
     have D1 := DO 1 (by decide)
     have D2 := DO 2 (by decide)
     have D3 := DO 3 (by decide)
     have D4 := DO 4 (by decide)
     have D5 := DO 5 (by decide)
     have D6 := DO 6 (by decide)
     have D7 := DO 7 (by decide)
     have D8 := DO 8 (by decide)
     have D9 := DO 9 (by decide)
     have D10 := DO 10 (by decide)
     have D11 := DO 11 (by decide)
     have D12 := DO 12 (by decide)
     have H0 := undoneF hun
     have H5 := hcl.back 5 _ ⟨0, .data⟩ rfl (by simp) rfl H0
     have H6 := hcl.back 6 _ ⟨5, .data⟩ rfl (by simp) rfl H5
     have H7 := hcl.back 7 _ ⟨6, .data⟩ rfl (by simp) rfl H6
     have H11 := hcl.back 11 _ ⟨7, .data⟩ rfl (by simp) rfl H7
     have H12 := hcl.back 12 _ ⟨11, .data⟩ rfl (by simp) rfl H11
     have hL := H12
     have hgr := I.gro hL
     refine wpOp_step rfl (fun K hK => ?_)
     simp only [frDy, e0, e1]
     go_simp
     have UO : ∀ n, n ≠ 13 -> updB us 13 (.slice (some ⟨gO, 0, none⟩) nn q) n = us n := fun n h => updB_other h
     have U13 : updB us 13 (.slice (some ⟨gO, 0, none⟩) nn q) 13 = (.slice (some ⟨gO, 0, none⟩) nn q) := updB_same _ _ _
     have U0 := UO 0 (by decide)
     have U1 := UO 1 (by decide)
     have U14 := UO 14 (by decide)
     have U15 := UO 15 (by decide)
     have U16 := UO 16 (by decide)
     have U17 := UO 17 (by decide)
     have U18 := UO 18 (by decide)
     have U19 := UO 19 (by decide)
     have U20 := UO 20 (by decide)
     have U21 := UO 21 (by decide)
     have U22 := UO 22 (by decide)
     have U23 := UO 23 (by decide)
     have U24 := UO 24 (by decide)
     refine hK _ _ ⟨updB us 13 (.slice (some ⟨gO, 0, none⟩) nn q), by simp [frDy, updB, e0, e1], { u0 := (U0.trans I.u0), u1 := (U1.trans I.u1), src := hs, gr1 := I.gr1, gro := (fun _ => hgr), o0 := (fun _ _ => U13), o1 := (fun h _ => by rw [U14]; exact I.o1 (D1.symm.trans h) hL), o2 := (fun h _ => by rw [U15]; exact I.o2 (D2.symm.trans h) hL), o3 := (fun h _ => by rw [U16]; exact I.o3 (D3.symm.trans h) hL), o4 := (fun h _ => by rw [U17]; exact I.o4 (D4.symm.trans h) hL), o5 := (fun h _ => by rw [U18]; exact I.o5 (D5.symm.trans h) hL), o6 := (fun h _ => by rw [U19]; exact I.o6 (D6.symm.trans h) hL), o7 := (fun h _ => by rw [U20]; exact I.o7 (D7.symm.trans h) hL), o8 := (fun h _ => by rw [U21]; exact I.o8 (D8.symm.trans h) hL), o9 := (fun h _ => by rw [U22]; obtain ⟨B2, g1, g2, g3, g4⟩ := I.o9 (D9.symm.trans h) hL; exact ⟨B2, g1, g2, g3, g4⟩), o10 := (fun h _ => by rw [U23]; exact I.o10 (D10.symm.trans h) hL), o11 := (fun h _ => by rw [U24]; exact I.o11 (D11.symm.trans h) hL), o12 := (fun h => by rw [D12, hL] at h; cases h) }⟩
    ·
     skip
     have DO : ∀ n, 1 ≠ n -> (d'.setIfInBounds 1 true).getD n false = d'.getD n false := fun n h => getD_set_ne false h
     have D1 : (d'.setIfInBounds 1 true).getD 1 false = true := setB_same hun
     have D0 := DO 0 (by decide)
     have D2 := DO 2 (by decide)
     have D3 := DO 3 (by decide)
     have D4 := DO 4 (by decide)
     have D5 := DO 5 (by decide)
     have D6 := DO 6 (by decide)
     have D7 := DO 7 (by decide)
     have D8 := DO 8 (by decide)
     have D9 := DO 9 (by decide)
     have D10 := DO 10 (by decide)
     have D11 := DO 11 (by decide)
     have D12 := DO 12 (by decide)
     have H1 := undoneF hun
     have H4 := hcl.back 4 _ ⟨1, .data⟩ rfl (by simp) rfl H1
     have H5 := hcl.back 5 _ ⟨4, .data⟩ rfl (by simp) rfl H4
     have H6 := hcl.back 6 _ ⟨5, .data⟩ rfl (by simp) rfl H5
     have H7 := hcl.back 7 _ ⟨6, .data⟩ rfl (by simp) rfl H6
     have H11 := hcl.back 11 _ ⟨7, .data⟩ rfl (by simp) rfl H7
     have H12 := hcl.back 12 _ ⟨11, .data⟩ rfl (by simp) rfl H11
     have hL := H12
     have hgr := I.gro hL
     refine wpOp_step rfl (fun K hK => ?_)
     simp only [frDy, e0, e1]
     go_simp
     have UO : ∀ n, n ≠ 14 -> updB us 14 (.pointer (some ⟨g, 0, none⟩)) n = us n := fun n h => updB_other h
     have U14 : updB us 14 (.pointer (some ⟨g, 0, none⟩)) 14 = (.pointer (some ⟨g, 0, none⟩)) := updB_same _ _ _
     have U0 := UO 0 (by decide)
     have U1 := UO 1 (by decide)
     have U13 := UO 13 (by decide)
     have U15 := UO 15 (by decide)
     have U16 := UO 16 (by decide)
     have U17 := UO 17 (by decide)
     have U18 := UO 18 (by decide)
     have U19 := UO 19 (by decide)
     have U20 := UO 20 (by decide)
     have U21 := UO 21 (by decide)
     have U22 := UO 22 (by decide)
     have U23 := UO 23 (by decide)
     have U24 := UO 24 (by decide)
     refine hK _ _ ⟨updB us 14 (.pointer (some ⟨g, 0, none⟩)), by simp [frDy, updB, e0, e1], { u0 := (U0.trans I.u0), u1 := (U1.trans I.u1), src := hs, gr1 := I.gr1, gro := (fun _ => hgr), o0 := (fun h _ => by rw [U13]; exact I.o0 (D0.symm.trans h) hL), o1 := (fun _ _ => U14), o2 := (fun h _ => by rw [U15]; exact I.o2 (D2.symm.trans h) hL), o3 := (fun h _ => by rw [U16]; exact I.o3 (D3.symm.trans h) hL), o4 := (fun h _ => by rw [U17]; exact I.o4 (D4.symm.trans h) hL), o5 := (fun h _ => by rw [U18]; exact I.o5 (D5.symm.trans h) hL), o6 := (fun h _ => by rw [U19]; exact I.o6 (D6.symm.trans h) hL), o7 := (fun h _ => by rw [U20]; exact I.o7 (D7.symm.trans h) hL), o8 := (fun h _ => by rw [U21]; exact I.o8 (D8.symm.trans h) hL), o9 := (fun h _ => by rw [U22]; obtain ⟨B2, g1, g2, g3, g4⟩ := I.o9 (D9.symm.trans h) hL; exact ⟨B2, g1, g2, g3, g4⟩), o10 := (fun h _ => by rw [U23]; exact I.o10 (D10.symm.trans h) hL), o11 := (fun h _ => by rw [U24]; exact I.o11 (D11.symm.trans h) hL), o12 := (fun h => by rw [D12, hL] at h; cases h) }⟩
    ·
     skip
     have DO : ∀ n, 2 ≠ n -> (d'.setIfInBounds 2 true).getD n false = d'.getD n false := fun n h => getD_set_ne false h
     have D2 : (d'.setIfInBounds 2 true).getD 2 false = true := setB_same hun
     have D0 := DO 0 (by decide)
     have D1 := DO 1 (by decide)
     have D3 := DO 3 (by decide)
     have D4 := DO 4 (by decide)
     have D5 := DO 5 (by decide)
     have D6 := DO 6 (by decide)
     have D7 := DO 7 (by decide)
     have D8 := DO 8 (by decide)
     have D9 := DO 9 (by decide)
     have D10 := DO 10 (by decide)
     have D11 := DO 11 (by decide)
     have D12 := DO 12 (by decide)
     have H2 := undoneF hun
     have H3 := hcl.back 3 _ ⟨2, .data⟩ rfl (by simp) rfl H2
     have H4 := hcl.back 4 _ ⟨3, .data⟩ rfl (by simp) rfl H3
     have H5 := hcl.back 5 _ ⟨4, .data⟩ rfl (by simp) rfl H4
     have H6 := hcl.back 6 _ ⟨5, .data⟩ rfl (by simp) rfl H5
     have H7 := hcl.back 7 _ ⟨6, .data⟩ rfl (by simp) rfl H6
     have H11 := hcl.back 11 _ ⟨7, .data⟩ rfl (by simp) rfl H7
     have H12 := hcl.back 12 _ ⟨11, .data⟩ rfl (by simp) rfl H11
     have hL := H12
     have hgr := I.gro hL
     refine wpOp_step rfl (fun K hK => ?_)
     simp only [frDy, e0, e1]
     go_simp
     have UO : ∀ n, n ≠ 15 -> updB us 15 (.slice (some ⟨gO, 0, none⟩) nn q) n = us n := fun n h => updB_other h
     have U15 : updB us 15 (.slice (some ⟨gO, 0, none⟩) nn q) 15 = (.slice (some ⟨gO, 0, none⟩) nn q) := updB_same _ _ _
     have U0 := UO 0 (by decide)
     have U1 := UO 1 (by decide)
     have U13 := UO 13 (by decide)
     have U14 := UO 14 (by decide)
     have U16 := UO 16 (by decide)
     have U17 := UO 17 (by decide)
     have U18 := UO 18 (by decide)
     have U19 := UO 19 (by decide)
     have U20 := UO 20 (by decide)
     have U21 := UO 21 (by decide)
     have U22 := UO 22 (by decide)
     have U23 := UO 23 (by decide)
     have U24 := UO 24 (by decide)
     refine hK _ _ ⟨updB us 15 (.slice (some ⟨gO, 0, none⟩) nn q), by simp [frDy, updB, e0, e1], { u0 := (U0.trans I.u0), u1 := (U1.trans I.u1), src := hs, gr1 := I.gr1, gro := (fun _ => hgr), o0 := (fun h _ => by rw [U13]; exact I.o0 (D0.symm.trans h) hL), o1 := (fun h _ => by rw [U14]; exact I.o1 (D1.symm.trans h) hL), o2 := (fun _ _ => U15), o3 := (fun h _ => by rw [U16]; exact I.o3 (D3.symm.trans h) hL), o4 := (fun h _ => by rw [U17]; exact I.o4 (D4.symm.trans h) hL), o5 := (fun h _ => by rw [U18]; exact I.o5 (D5.symm.trans h) hL), o6 := (fun h _ => by rw [U19]; exact I.o6 (D6.symm.trans h) hL), o7 := (fun h _ => by rw [U20]; exact I.o7 (D7.symm.trans h) hL), o8 := (fun h _ => by rw [U21]; exact I.o8 (D8.symm.trans h) hL), o9 := (fun h _ => by rw [U22]; obtain ⟨B2, g1, g2, g3, g4⟩ := I.o9 (D9.symm.trans h) hL; exact ⟨B2, g1, g2, g3, g4⟩), o10 := (fun h _ => by rw [U23]; exact I.o10 (D10.symm.trans h) hL), o11 := (fun h _ => by rw [U24]; exact I.o11 (D11.symm.trans h) hL), o12 := (fun h => by rw [D12, hL] at h; cases h) }⟩
    ·
     skip
     have DO : ∀ n, 3 ≠ n -> (d'.setIfInBounds 3 true).getD n false = d'.getD n false := fun n h => getD_set_ne false h
     have D3 : (d'.setIfInBounds 3 true).getD 3 false = true := setB_same hun
     have D0 := DO 0 (by decide)
     have D1 := DO 1 (by decide)
     have D2 := DO 2 (by decide)
     have D4 := DO 4 (by decide)
     have D5 := DO 5 (by decide)
     have D6 := DO 6 (by decide)
     have D7 := DO 7 (by decide)
     have D8 := DO 8 (by decide)
     have D9 := DO 9 (by decide)
     have D10 := DO 10 (by decide)
     have D11 := DO 11 (by decide)
     have D12 := DO 12 (by decide)
     have H3 := undoneF hun
     have H4 := hcl.back 4 _ ⟨3, .data⟩ rfl (by simp) rfl H3
     have H5 := hcl.back 5 _ ⟨4, .data⟩ rfl (by simp) rfl H4
     have H6 := hcl.back 6 _ ⟨5, .data⟩ rfl (by simp) rfl H5
     have H7 := hcl.back 7 _ ⟨6, .data⟩ rfl (by simp) rfl H6
     have H11 := hcl.back 11 _ ⟨7, .data⟩ rfl (by simp) rfl H7
     have H12 := hcl.back 12 _ ⟨11, .data⟩ rfl (by simp) rfl H11
     have hL := H12
     have hgr := I.gro hL
     have e15 := I.o2 (hall ⟨2, .data⟩ (by simp) rfl) hL
     refine wpOp_step rfl (fun K hK => ?_)
     simp only [frDy, e0, e1, e15]
     go_simp
     have UO : ∀ n, n ≠ 16 -> updB us 16 (.int .i64 (nn : Int)) n = us n := fun n h => updB_other h
     have U16 : updB us 16 (.int .i64 (nn : Int)) 16 = (.int .i64 (nn : Int)) := updB_same _ _ _
     have U0 := UO 0 (by decide)
     have U1 := UO 1 (by decide)
     have U13 := UO 13 (by decide)
     have U14 := UO 14 (by decide)
     have U15 := UO 15 (by decide)
     have U17 := UO 17 (by decide)
     have U18 := UO 18 (by decide)
     have U19 := UO 19 (by decide)
     have U20 := UO 20 (by decide)
     have U21 := UO 21 (by decide)
     have U22 := UO 22 (by decide)
     have U23 := UO 23 (by decide)
     have U24 := UO 24 (by decide)
     refine hK _ _ ⟨updB us 16 (.int .i64 (nn : Int)), by simp [frDy, updB, e0, e1, e15], { u0 := (U0.trans I.u0), u1 := (U1.trans I.u1), src := hs, gr1 := I.gr1, gro := (fun _ => hgr), o0 := (fun h _ => by rw [U13]; exact I.o0 (D0.symm.trans h) hL), o1 := (fun h _ => by rw [U14]; exact I.o1 (D1.symm.trans h) hL), o2 := (fun h _ => by rw [U15]; exact I.o2 (D2.symm.trans h) hL), o3 := (fun _ _ => U16), o4 := (fun h _ => by rw [U17]; exact I.o4 (D4.symm.trans h) hL), o5 := (fun h _ => by rw [U18]; exact I.o5 (D5.symm.trans h) hL), o6 := (fun h _ => by rw [U19]; exact I.o6 (D6.symm.trans h) hL), o7 := (fun h _ => by rw [U20]; exact I.o7 (D7.symm.trans h) hL), o8 := (fun h _ => by rw [U21]; exact I.o8 (D8.symm.trans h) hL), o9 := (fun h _ => by rw [U22]; obtain ⟨B2, g1, g2, g3, g4⟩ := I.o9 (D9.symm.trans h) hL; exact ⟨B2, g1, g2, g3, g4⟩), o10 := (fun h _ => by rw [U23]; exact I.o10 (D10.symm.trans h) hL), o11 := (fun h _ => by rw [U24]; exact I.o11 (D11.symm.trans h) hL), o12 := (fun h => by rw [D12, hL] at h; cases h) }⟩
    ·
     skip
     have DO : ∀ n, 4 ≠ n -> (d'.setIfInBounds 4 true).getD n false = d'.getD n false := fun n h => getD_set_ne false h
     have D4 : (d'.setIfInBounds 4 true).getD 4 false = true := setB_same hun
     have D0 := DO 0 (by decide)
     have D1 := DO 1 (by decide)
     have D2 := DO 2 (by decide)
     have D3 := DO 3 (by decide)
     have D5 := DO 5 (by decide)
     have D6 := DO 6 (by decide)
     have D7 := DO 7 (by decide)
     have D8 := DO 8 (by decide)
     have D9 := DO 9 (by decide)
     have D10 := DO 10 (by decide)
     have D11 := DO 11 (by decide)
     have D12 := DO 12 (by decide)
     have H4 := undoneF hun
     have H5 := hcl.back 5 _ ⟨4, .data⟩ rfl (by simp) rfl H4
     have H6 := hcl.back 6 _ ⟨5, .data⟩ rfl (by simp) rfl H5
     have H7 := hcl.back 7 _ ⟨6, .data⟩ rfl (by simp) rfl H6
     have H11 := hcl.back 11 _ ⟨7, .data⟩ rfl (by simp) rfl H7
     have H12 := hcl.back 12 _ ⟨11, .data⟩ rfl (by simp) rfl H11
     have hL := H12
     have hgr := I.gro hL
     have e14 := I.o1 (hall ⟨1, .data⟩ (by simp) rfl) hL
     have e16 := I.o3 (hall ⟨3, .data⟩ (by simp) rfl) hL
     refine wpOp_step rfl (fun K hK => ?_)
     simp only [frDy, e0, e1, e14, e16]
     go_simp
     go_wp2_with (go_at_call 55; refine (next_any g _ base A c bs _ hs (by omega)).mono ?_; rintro e w2 ⟨r, rfl, r0, r1, hs2, hg2⟩)
     have UO : ∀ n, n ≠ 17 -> updB us 17 (.int .i64 r) n = us n := fun n h => updB_other h
     have U17 : updB us 17 (.int .i64 r) 17 = (.int .i64 r) := updB_same _ _ _
     have U0 := UO 0 (by decide)
     have U1 := UO 1 (by decide)
     have U13 := UO 13 (by decide)
     have U14 := UO 14 (by decide)
     have U15 := UO 15 (by decide)
     have U16 := UO 16 (by decide)
     have U18 := UO 18 (by decide)
     have U19 := UO 19 (by decide)
     have U20 := UO 20 (by decide)
     have U21 := UO 21 (by decide)
     have U22 := UO 22 (by decide)
     have U23 := UO 23 (by decide)
     have U24 := UO 24 (by decide)
     exact ⟨updB us 17 (.int .i64 r), by simp [frDy, updB, e0, e1, e14, e16], { u0 := (U0.trans I.u0), u1 := (U1.trans I.u1), src := hs2, gr1 := (I.gr1.trans hg2), gro := (fun _ => hgr.trans hg2), o0 := (fun h _ => by rw [U13]; exact I.o0 (D0.symm.trans h) hL), o1 := (fun h _ => by rw [U14]; exact I.o1 (D1.symm.trans h) hL), o2 := (fun h _ => by rw [U15]; exact I.o2 (D2.symm.trans h) hL), o3 := (fun h _ => by rw [U16]; exact I.o3 (D3.symm.trans h) hL), o4 := (fun _ _ => ⟨r, U17, by omega, by omega⟩), o5 := (fun h _ => by rw [U18]; exact I.o5 (D5.symm.trans h) hL), o6 := (fun h _ => by rw [U19]; exact I.o6 (D6.symm.trans h) hL), o7 := (fun h _ => by rw [U20]; exact I.o7 (D7.symm.trans h) hL), o8 := (fun h _ => by rw [U21]; exact I.o8 (D8.symm.trans h) hL), o9 := (fun h _ => by rw [U22]; obtain ⟨B2, g1, g2, g3, g4⟩ := I.o9 (D9.symm.trans h) hL; exact ⟨B2, g1, (keepG hg2 g2 g3), g3, g4⟩), o10 := (fun h _ => by rw [U23]; exact I.o10 (D10.symm.trans h) hL), o11 := (fun h _ => by rw [U24]; exact I.o11 (D11.symm.trans h) hL), o12 := (fun h => by rw [D12, hL] at h; cases h) }⟩
    ·
     skip
     have DO : ∀ n, 5 ≠ n -> (d'.setIfInBounds 5 true).getD n false = d'.getD n false := fun n h => getD_set_ne false h
     have D5 : (d'.setIfInBounds 5 true).getD 5 false = true := setB_same hun
     have D0 := DO 0 (by decide)
     have D1 := DO 1 (by decide)
     have D2 := DO 2 (by decide)
     have D3 := DO 3 (by decide)
     have D4 := DO 4 (by decide)
     have D6 := DO 6 (by decide)
     have D7 := DO 7 (by decide)
     have D8 := DO 8 (by decide)
     have D9 := DO 9 (by decide)
     have D10 := DO 10 (by decide)
     have D11 := DO 11 (by decide)
     have D12 := DO 12 (by decide)
     have H5 := undoneF hun
     have H6 := hcl.back 6 _ ⟨5, .data⟩ rfl (by simp) rfl H5
     have H7 := hcl.back 7 _ ⟨6, .data⟩ rfl (by simp) rfl H6
     have H11 := hcl.back 11 _ ⟨7, .data⟩ rfl (by simp) rfl H7
     have H12 := hcl.back 12 _ ⟨11, .data⟩ rfl (by simp) rfl H11
     have hL := H12
     have hgr := I.gro hL
     have e13 := I.o0 (hall ⟨0, .data⟩ (by simp) rfl) hL
     obtain ⟨z4, e17, za4, zb4⟩ := I.o4 (hall ⟨4, .data⟩ (by simp) rfl) hL
     obtain ⟨kz, rfl⟩ := Int.eq_ofNat_of_zero_le za4
     have hkz : kz < nn := by omega
     refine wpOp_step rfl (fun K hK => ?_)
     simp only [frDy, e0, e1, e13, e17]
     go_simp
     try (rw [if_pos (by omega)]; go_simp)
     have UO : ∀ n, n ≠ 18 -> updB us 18 (.pointer (some ⟨gO, kz * 2, none⟩)) n = us n := fun n h => updB_other h
     have U18 : updB us 18 (.pointer (some ⟨gO, kz * 2, none⟩)) 18 = (.pointer (some ⟨gO, kz * 2, none⟩)) := updB_same _ _ _
     have U0 := UO 0 (by decide)
     have U1 := UO 1 (by decide)
     have U13 := UO 13 (by decide)
     have U14 := UO 14 (by decide)
     have U15 := UO 15 (by decide)
     have U16 := UO 16 (by decide)
     have U17 := UO 17 (by decide)
     have U19 := UO 19 (by decide)
     have U20 := UO 20 (by decide)
     have U21 := UO 21 (by decide)
     have U22 := UO 22 (by decide)
     have U23 := UO 23 (by decide)
     have U24 := UO 24 (by decide)
     refine hK _ _ ⟨updB us 18 (.pointer (some ⟨gO, kz * 2, none⟩)), by simp [frDy, updB, e0, e1, e13, e17], { u0 := (U0.trans I.u0), u1 := (U1.trans I.u1), src := hs, gr1 := I.gr1, gro := (fun _ => hgr), o0 := (fun h _ => by rw [U13]; exact I.o0 (D0.symm.trans h) hL), o1 := (fun h _ => by rw [U14]; exact I.o1 (D1.symm.trans h) hL), o2 := (fun h _ => by rw [U15]; exact I.o2 (D2.symm.trans h) hL), o3 := (fun h _ => by rw [U16]; exact I.o3 (D3.symm.trans h) hL), o4 := (fun h _ => by rw [U17]; exact I.o4 (D4.symm.trans h) hL), o5 := (fun _ _ => ⟨kz, U18, hkz⟩), o6 := (fun h _ => by rw [U19]; exact I.o6 (D6.symm.trans h) hL), o7 := (fun h _ => by rw [U20]; exact I.o7 (D7.symm.trans h) hL), o8 := (fun h _ => by rw [U21]; exact I.o8 (D8.symm.trans h) hL), o9 := (fun h _ => by rw [U22]; obtain ⟨B2, g1, g2, g3, g4⟩ := I.o9 (D9.symm.trans h) hL; exact ⟨B2, g1, g2, g3, g4⟩), o10 := (fun h _ => by rw [U23]; exact I.o10 (D10.symm.trans h) hL), o11 := (fun h _ => by rw [U24]; exact I.o11 (D11.symm.trans h) hL), o12 := (fun h => by rw [D12, hL] at h; cases h) }⟩
    ·
     skip
     have DO : ∀ n, 6 ≠ n -> (d'.setIfInBounds 6 true).getD n false = d'.getD n false := fun n h => getD_set_ne false h
     have D6 : (d'.setIfInBounds 6 true).getD 6 false = true := setB_same hun
     have D0 := DO 0 (by decide)
     have D1 := DO 1 (by decide)
     have D2 := DO 2 (by decide)
     have D3 := DO 3 (by decide)
     have D4 := DO 4 (by decide)
     have D5 := DO 5 (by decide)
     have D7 := DO 7 (by decide)
     have D8 := DO 8 (by decide)
     have D9 := DO 9 (by decide)
     have D10 := DO 10 (by decide)
     have D11 := DO 11 (by decide)
     have D12 := DO 12 (by decide)
     have H6 := undoneF hun
     have H7 := hcl.back 7 _ ⟨6, .data⟩ rfl (by simp) rfl H6
     have H11 := hcl.back 11 _ ⟨7, .data⟩ rfl (by simp) rfl H7
     have H12 := hcl.back 12 _ ⟨11, .data⟩ rfl (by simp) rfl H11
     have hL := H12
     have hgr := I.gro hL
     obtain ⟨z5_0, e18, q5_0⟩ := I.o5 (hall ⟨5, .data⟩ (by simp) rfl) hL
     refine wpOp_step rfl (fun K hK => ?_)
     simp only [frDy, e0, e1, e18]
     go_simp
     have UO : ∀ n, n ≠ 19 -> updB us 19 (.pointer (some ⟨gO, z5_0 * 2, none⟩)) n = us n := fun n h => updB_other h
     have U19 : updB us 19 (.pointer (some ⟨gO, z5_0 * 2, none⟩)) 19 = (.pointer (some ⟨gO, z5_0 * 2, none⟩)) := updB_same _ _ _
     have U0 := UO 0 (by decide)
     have U1 := UO 1 (by decide)
     have U13 := UO 13 (by decide)
     have U14 := UO 14 (by decide)
     have U15 := UO 15 (by decide)
     have U16 := UO 16 (by decide)
     have U17 := UO 17 (by decide)
     have U18 := UO 18 (by decide)
     have U20 := UO 20 (by decide)
     have U21 := UO 21 (by decide)
     have U22 := UO 22 (by decide)
     have U23 := UO 23 (by decide)
     have U24 := UO 24 (by decide)
     refine hK _ _ ⟨updB us 19 (.pointer (some ⟨gO, z5_0 * 2, none⟩)), by simp [frDy, updB, e0, e1, e18], { u0 := (U0.trans I.u0), u1 := (U1.trans I.u1), src := hs, gr1 := I.gr1, gro := (fun _ => hgr), o0 := (fun h _ => by rw [U13]; exact I.o0 (D0.symm.trans h) hL), o1 := (fun h _ => by rw [U14]; exact I.o1 (D1.symm.trans h) hL), o2 := (fun h _ => by rw [U15]; exact I.o2 (D2.symm.trans h) hL), o3 := (fun h _ => by rw [U16]; exact I.o3 (D3.symm.trans h) hL), o4 := (fun h _ => by rw [U17]; exact I.o4 (D4.symm.trans h) hL), o5 := (fun h _ => by rw [U18]; exact I.o5 (D5.symm.trans h) hL), o6 := (fun _ _ => ⟨z5_0, U19, q5_0⟩), o7 := (fun h _ => by rw [U20]; exact I.o7 (D7.symm.trans h) hL), o8 := (fun h _ => by rw [U21]; exact I.o8 (D8.symm.trans h) hL), o9 := (fun h _ => by rw [U22]; obtain ⟨B2, g1, g2, g3, g4⟩ := I.o9 (D9.symm.trans h) hL; exact ⟨B2, g1, g2, g3, g4⟩), o10 := (fun h _ => by rw [U23]; exact I.o10 (D10.symm.trans h) hL), o11 := (fun h _ => by rw [U24]; exact I.o11 (D11.symm.trans h) hL), o12 := (fun h => by rw [D12, hL] at h; cases h) }⟩
    ·
     skip
     have DO : ∀ n, 7 ≠ n -> (d'.setIfInBounds 7 true).getD n false = d'.getD n false := fun n h => getD_set_ne false h
     have D7 : (d'.setIfInBounds 7 true).getD 7 false = true := setB_same hun
     have D0 := DO 0 (by decide)
     have D1 := DO 1 (by decide)
     have D2 := DO 2 (by decide)
     have D3 := DO 3 (by decide)
     have D4 := DO 4 (by decide)
     have D5 := DO 5 (by decide)
     have D6 := DO 6 (by decide)
     have D8 := DO 8 (by decide)
     have D9 := DO 9 (by decide)
     have D10 := DO 10 (by decide)
     have D11 := DO 11 (by decide)
     have D12 := DO 12 (by decide)
     have H7 := undoneF hun
     have H11 := hcl.back 11 _ ⟨7, .data⟩ rfl (by simp) rfl H7
     have H12 := hcl.back 12 _ ⟨11, .data⟩ rfl (by simp) rfl H11
     have hL := H12
     have hgr := I.gro hL
     obtain ⟨z6_0, e19, q6_0⟩ := I.o6 (hall ⟨6, .data⟩ (by simp) rfl) hL
     obtain ⟨yy, hyc, hy0, hy1⟩ := YR.out W hgr z6_0 q6_0
     refine wpOp_step rfl (fun K hK => ?_)
     simp only [frDy, e0, e1, e19]
     go_simp
     have UO : ∀ n, n ≠ 20 -> updB us 20 (.int .i64 yy) n = us n := fun n h => updB_other h
     have U20 : updB us 20 (.int .i64 yy) 20 = (.int .i64 yy) := updB_same _ _ _
     have U0 := UO 0 (by decide)
     have U1 := UO 1 (by decide)
     have U13 := UO 13 (by decide)
     have U14 := UO 14 (by decide)
     have U15 := UO 15 (by decide)
     have U16 := UO 16 (by decide)
     have U17 := UO 17 (by decide)
     have U18 := UO 18 (by decide)
     have U19 := UO 19 (by decide)
     have U21 := UO 21 (by decide)
     have U22 := UO 22 (by decide)
     have U23 := UO 23 (by decide)
     have U24 := UO 24 (by decide)
     refine hK _ _ ⟨updB us 20 (.int .i64 yy), by simp [frDy, updB, e0, e1, e19], { u0 := (U0.trans I.u0), u1 := (U1.trans I.u1), src := hs, gr1 := I.gr1, gro := (fun _ => hgr), o0 := (fun h _ => by rw [U13]; exact I.o0 (D0.symm.trans h) hL), o1 := (fun h _ => by rw [U14]; exact I.o1 (D1.symm.trans h) hL), o2 := (fun h _ => by rw [U15]; exact I.o2 (D2.symm.trans h) hL), o3 := (fun h _ => by rw [U16]; exact I.o3 (D3.symm.trans h) hL), o4 := (fun h _ => by rw [U17]; exact I.o4 (D4.symm.trans h) hL), o5 := (fun h _ => by rw [U18]; exact I.o5 (D5.symm.trans h) hL), o6 := (fun h _ => by rw [U19]; exact I.o6 (D6.symm.trans h) hL), o7 := (fun _ _ => ⟨yy, U20, hy0, hy1⟩), o8 := (fun h _ => by rw [U21]; exact I.o8 (D8.symm.trans h) hL), o9 := (fun h _ => by rw [U22]; obtain ⟨B2, g1, g2, g3, g4⟩ := I.o9 (D9.symm.trans h) hL; exact ⟨B2, g1, g2, g3, g4⟩), o10 := (fun h _ => by rw [U23]; exact I.o10 (D10.symm.trans h) hL), o11 := (fun h _ => by rw [U24]; exact I.o11 (D11.symm.trans h) hL), o12 := (fun h => by rw [D12, hL] at h; cases h) }⟩
    ·
     skip
     have DO : ∀ n, 8 ≠ n -> (d'.setIfInBounds 8 true).getD n false = d'.getD n false := fun n h => getD_set_ne false h
     have D8 : (d'.setIfInBounds 8 true).getD 8 false = true := setB_same hun
     have D0 := DO 0 (by decide)
     have D1 := DO 1 (by decide)
     have D2 := DO 2 (by decide)
     have D3 := DO 3 (by decide)
     have D4 := DO 4 (by decide)
     have D5 := DO 5 (by decide)
     have D6 := DO 6 (by decide)
     have D7 := DO 7 (by decide)
     have D9 := DO 9 (by decide)
     have D10 := DO 10 (by decide)
     have D11 := DO 11 (by decide)
     have D12 := DO 12 (by decide)
     have H8 := undoneF hun
     have H10 := hcl.back 10 _ ⟨8, .data⟩ rfl (by simp) rfl H8
     have H11 := hcl.back 11 _ ⟨10, .data⟩ rfl (by simp) rfl H10
     have H12 := hcl.back 12 _ ⟨11, .data⟩ rfl (by simp) rfl H11
     have hL := H12
     have hgr := I.gro hL
     refine wpOp_step rfl (fun K hK => ?_)
     simp only [frDy, e0, e1]
     go_simp
     have UO : ∀ n, n ≠ 21 -> updB us 21 (.pointer (some ⟨g, 0, none⟩)) n = us n := fun n h => updB_other h
     have U21 : updB us 21 (.pointer (some ⟨g, 0, none⟩)) 21 = (.pointer (some ⟨g, 0, none⟩)) := updB_same _ _ _
     have U0 := UO 0 (by decide)
     have U1 := UO 1 (by decide)
     have U13 := UO 13 (by decide)
     have U14 := UO 14 (by decide)
     have U15 := UO 15 (by decide)
     have U16 := UO 16 (by decide)
     have U17 := UO 17 (by decide)
     have U18 := UO 18 (by decide)
     have U19 := UO 19 (by decide)
     have U20 := UO 20 (by decide)
     have U22 := UO 22 (by decide)
     have U23 := UO 23 (by decide)
     have U24 := UO 24 (by decide)
     refine hK _ _ ⟨updB us 21 (.pointer (some ⟨g, 0, none⟩)), by simp [frDy, updB, e0, e1], { u0 := (U0.trans I.u0), u1 := (U1.trans I.u1), src := hs, gr1 := I.gr1, gro := (fun _ => hgr), o0 := (fun h _ => by rw [U13]; exact I.o0 (D0.symm.trans h) hL), o1 := (fun h _ => by rw [U14]; exact I.o1 (D1.symm.trans h) hL), o2 := (fun h _ => by rw [U15]; exact I.o2 (D2.symm.trans h) hL), o3 := (fun h _ => by rw [U16]; exact I.o3 (D3.symm.trans h) hL), o4 := (fun h _ => by rw [U17]; exact I.o4 (D4.symm.trans h) hL), o5 := (fun h _ => by rw [U18]; exact I.o5 (D5.symm.trans h) hL), o6 := (fun h _ => by rw [U19]; exact I.o6 (D6.symm.trans h) hL), o7 := (fun h _ => by rw [U20]; exact I.o7 (D7.symm.trans h) hL), o8 := (fun _ _ => U21), o9 := (fun h _ => by rw [U22]; obtain ⟨B2, g1, g2, g3, g4⟩ := I.o9 (D9.symm.trans h) hL; exact ⟨B2, g1, g2, g3, g4⟩), o10 := (fun h _ => by rw [U23]; exact I.o10 (D10.symm.trans h) hL), o11 := (fun h _ => by rw [U24]; exact I.o11 (D11.symm.trans h) hL), o12 := (fun h => by rw [D12, hL] at h; cases h) }⟩
    ·
     skip
     have DO : ∀ n, 9 ≠ n -> (d'.setIfInBounds 9 true).getD n false = d'.getD n false := fun n h => getD_set_ne false h
     have D9 : (d'.setIfInBounds 9 true).getD 9 false = true := setB_same hun
     have D0 := DO 0 (by decide)
     have D1 := DO 1 (by decide)
     have D2 := DO 2 (by decide)
     have D3 := DO 3 (by decide)
     have D4 := DO 4 (by decide)
     have D5 := DO 5 (by decide)
     have D6 := DO 6 (by decide)
     have D7 := DO 7 (by decide)
     have D8 := DO 8 (by decide)
     have D10 := DO 10 (by decide)
     have D11 := DO 11 (by decide)
     have D12 := DO 12 (by decide)
     have H9 := undoneF hun
     have H10 := hcl.back 10 _ ⟨9, .data⟩ rfl (by simp) rfl H9
     have H11 := hcl.back 11 _ ⟨10, .data⟩ rfl (by simp) rfl H10
     have H12 := hcl.back 12 _ ⟨11, .data⟩ rfl (by simp) rfl H11
     have hL := H12
     have hgr := I.gro hL
     refine wpOp_step rfl (fun K hK => ?_)
     simp only [frDy, e0, e1]
     go_simp
     have UO : ∀ n, n ≠ 22 -> updB us 22 (.slice (some ⟨W.heap.size, 0, none⟩) 5 5) n = us n := fun n h => updB_other h
     have U22 : updB us 22 (.slice (some ⟨W.heap.size, 0, none⟩) 5 5) 22 = (.slice (some ⟨W.heap.size, 0, none⟩) 5 5) := updB_same _ _ _
     have U0 := UO 0 (by decide)
     have U1 := UO 1 (by decide)
     have U13 := UO 13 (by decide)
     have U14 := UO 14 (by decide)
     have U15 := UO 15 (by decide)
     have U16 := UO 16 (by decide)
     have U17 := UO 17 (by decide)
     have U18 := UO 18 (by decide)
     have U19 := UO 19 (by decide)
     have U20 := UO 20 (by decide)
     have U21 := UO 21 (by decide)
     have U23 := UO 23 (by decide)
     have U24 := UO 24 (by decide)
     refine hK _ _ ⟨updB us 22 (.slice (some ⟨W.heap.size, 0, none⟩) 5 5), by simp [frDy, updB, e0, e1], { u0 := (U0.trans I.u0), u1 := (U1.trans I.u1), src := (hs.alloc _), gr1 := (grown_alloc I.gr1 _), gro := (fun _ => grown_alloc hgr _), o0 := (fun h _ => by rw [U13]; exact I.o0 (D0.symm.trans h) hL), o1 := (fun h _ => by rw [U14]; exact I.o1 (D1.symm.trans h) hL), o2 := (fun h _ => by rw [U15]; exact I.o2 (D2.symm.trans h) hL), o3 := (fun h _ => by rw [U16]; exact I.o3 (D3.symm.trans h) hL), o4 := (fun h _ => by rw [U17]; exact I.o4 (D4.symm.trans h) hL), o5 := (fun h _ => by rw [U18]; exact I.o5 (D5.symm.trans h) hL), o6 := (fun h _ => by rw [U19]; exact I.o6 (D6.symm.trans h) hL), o7 := (fun h _ => by rw [U20]; exact I.o7 (D7.symm.trans h) hL), o8 := (fun h _ => by rw [U21]; exact I.o8 (D8.symm.trans h) hL), o9 := (fun _ _ => ⟨W.heap.size, U22, heap_alloc_new W _, by omega, hgr.size⟩), o10 := (fun h _ => by rw [U23]; exact I.o10 (D10.symm.trans h) hL), o11 := (fun h _ => by rw [U24]; exact I.o11 (D11.symm.trans h) hL), o12 := (fun h => by rw [D12, hL] at h; cases h) }⟩
    ·
     skip
     have DO : ∀ n, 10 ≠ n -> (d'.setIfInBounds 10 true).getD n false = d'.getD n false := fun n h => getD_set_ne false h
     have D10 : (d'.setIfInBounds 10 true).getD 10 false = true := setB_same hun
     have D0 := DO 0 (by decide)
     have D1 := DO 1 (by decide)
     have D2 := DO 2 (by decide)
     have D3 := DO 3 (by decide)
     have D4 := DO 4 (by decide)
     have D5 := DO 5 (by decide)
     have D6 := DO 6 (by decide)
     have D7 := DO 7 (by decide)
     have D8 := DO 8 (by decide)
     have D9 := DO 9 (by decide)
     have D11 := DO 11 (by decide)
     have D12 := DO 12 (by decide)
     have H10 := undoneF hun
     have H11 := hcl.back 11 _ ⟨10, .data⟩ rfl (by simp) rfl H10
     have H12 := hcl.back 12 _ ⟨11, .data⟩ rfl (by simp) rfl H11
     have hL := H12
     have hgr := I.gro hL
     have e21 := I.o8 (hall ⟨8, .data⟩ (by simp) rfl) hL
     obtain ⟨B9, e22, hB9, hBg9, hBl9⟩ := I.o9 (hall ⟨9, .data⟩ (by simp) rfl) hL
     refine wpOp_step rfl (fun K hK => ?_)
     simp only [frDy, e0, e1, e21, e22]
     go_simp
     go_wp2_with (go_at_call 67; refine (pick_any g (some ⟨B9, 0, none⟩) 5 5 [0, 0, 0, 1, -1] (-1) 1 base A c bs _ hs (rw_row hB9) rfl (by rintro a ⟨rfl⟩; exact hBg9) (by decide) (by decide) (by decide)).mono ?_; rintro e w2 ⟨r, rfl, r0, r1, hs2, hg2⟩)
     have UO : ∀ n, n ≠ 23 -> updB us 23 (.int .i64 r) n = us n := fun n h => updB_other h
     have U23 : updB us 23 (.int .i64 r) 23 = (.int .i64 r) := updB_same _ _ _
     have U0 := UO 0 (by decide)
     have U1 := UO 1 (by decide)
     have U13 := UO 13 (by decide)
     have U14 := UO 14 (by decide)
     have U15 := UO 15 (by decide)
     have U16 := UO 16 (by decide)
     have U17 := UO 17 (by decide)
     have U18 := UO 18 (by decide)
     have U19 := UO 19 (by decide)
     have U20 := UO 20 (by decide)
     have U21 := UO 21 (by decide)
     have U22 := UO 22 (by decide)
     have U24 := UO 24 (by decide)
     exact ⟨updB us 23 (.int .i64 r), by simp [frDy, updB, e0, e1, e21, e22], { u0 := (U0.trans I.u0), u1 := (U1.trans I.u1), src := hs2, gr1 := (I.gr1.trans hg2), gro := (fun _ => hgr.trans hg2), o0 := (fun h _ => by rw [U13]; exact I.o0 (D0.symm.trans h) hL), o1 := (fun h _ => by rw [U14]; exact I.o1 (D1.symm.trans h) hL), o2 := (fun h _ => by rw [U15]; exact I.o2 (D2.symm.trans h) hL), o3 := (fun h _ => by rw [U16]; exact I.o3 (D3.symm.trans h) hL), o4 := (fun h _ => by rw [U17]; exact I.o4 (D4.symm.trans h) hL), o5 := (fun h _ => by rw [U18]; exact I.o5 (D5.symm.trans h) hL), o6 := (fun h _ => by rw [U19]; exact I.o6 (D6.symm.trans h) hL), o7 := (fun h _ => by rw [U20]; exact I.o7 (D7.symm.trans h) hL), o8 := (fun h _ => by rw [U21]; exact I.o8 (D8.symm.trans h) hL), o9 := (fun h _ => by rw [U22]; obtain ⟨B2, g1, g2, g3, g4⟩ := I.o9 (D9.symm.trans h) hL; exact ⟨B2, g1, (keepG hg2 g2 g3), g3, g4⟩), o10 := (fun _ _ => ⟨r, U23, by omega, by omega⟩), o11 := (fun h _ => by rw [U24]; exact I.o11 (D11.symm.trans h) hL), o12 := (fun h => by rw [D12, hL] at h; cases h) }⟩
    ·
     skip
     have DO : ∀ n, 11 ≠ n -> (d'.setIfInBounds 11 true).getD n false = d'.getD n false := fun n h => getD_set_ne false h
     have D11 : (d'.setIfInBounds 11 true).getD 11 false = true := setB_same hun
     have D0 := DO 0 (by decide)
     have D1 := DO 1 (by decide)
     have D2 := DO 2 (by decide)
     have D3 := DO 3 (by decide)
     have D4 := DO 4 (by decide)
     have D5 := DO 5 (by decide)
     have D6 := DO 6 (by decide)
     have D7 := DO 7 (by decide)
     have D8 := DO 8 (by decide)
     have D9 := DO 9 (by decide)
     have D10 := DO 10 (by decide)
     have D12 := DO 12 (by decide)
     have H11 := undoneF hun
     have H12 := hcl.back 12 _ ⟨11, .data⟩ rfl (by simp) rfl H11
     have hL := H12
     have hgr := I.gro hL
     obtain ⟨z7_0, e20, q7_0, q7_1⟩ := I.o7 (hall ⟨7, .data⟩ (by simp) rfl) hL
     obtain ⟨z10, e23, za10, zb10⟩ := I.o10 (hall ⟨10, .data⟩ (by simp) rfl) hL
     refine wpOp_step rfl (fun K hK => ?_)
     simp only [frDy, e0, e1, e20, e23]
     go_simp
     try rw [IntWalk.i64_in _ (by omega)]
     have UO : ∀ n, n ≠ 24 -> updB us 24 (.int .i64 (z7_0 + z10)) n = us n := fun n h => updB_other h
     have U24 : updB us 24 (.int .i64 (z7_0 + z10)) 24 = (.int .i64 (z7_0 + z10)) := updB_same _ _ _
     have U0 := UO 0 (by decide)
     have U1 := UO 1 (by decide)
     have U13 := UO 13 (by decide)
     have U14 := UO 14 (by decide)
     have U15 := UO 15 (by decide)
     have U16 := UO 16 (by decide)
     have U17 := UO 17 (by decide)
     have U18 := UO 18 (by decide)
     have U19 := UO 19 (by decide)
     have U20 := UO 20 (by decide)
     have U21 := UO 21 (by decide)
     have U22 := UO 22 (by decide)
     have U23 := UO 23 (by decide)
     refine hK _ _ ⟨updB us 24 (.int .i64 (z7_0 + z10)), by simp [frDy, updB, e0, e1, e20, e23], { u0 := (U0.trans I.u0), u1 := (U1.trans I.u1), src := hs, gr1 := I.gr1, gro := (fun _ => hgr), o0 := (fun h _ => by rw [U13]; exact I.o0 (D0.symm.trans h) hL), o1 := (fun h _ => by rw [U14]; exact I.o1 (D1.symm.trans h) hL), o2 := (fun h _ => by rw [U15]; exact I.o2 (D2.symm.trans h) hL), o3 := (fun h _ => by rw [U16]; exact I.o3 (D3.symm.trans h) hL), o4 := (fun h _ => by rw [U17]; exact I.o4 (D4.symm.trans h) hL), o5 := (fun h _ => by rw [U18]; exact I.o5 (D5.symm.trans h) hL), o6 := (fun h _ => by rw [U19]; exact I.o6 (D6.symm.trans h) hL), o7 := (fun h _ => by rw [U20]; exact I.o7 (D7.symm.trans h) hL), o8 := (fun h _ => by rw [U21]; exact I.o8 (D8.symm.trans h) hL), o9 := (fun h _ => by rw [U22]; obtain ⟨B2, g1, g2, g3, g4⟩ := I.o9 (D9.symm.trans h) hL; exact ⟨B2, g1, g2, g3, g4⟩), o10 := (fun h _ => by rw [U23]; exact I.o10 (D10.symm.trans h) hL), o11 := (fun _ _ => ⟨z7_0 + z10, U24, by omega, by omega⟩), o12 := (fun h => by rw [D12, hL] at h; cases h) }⟩
    ·
     skip
     have DO : ∀ n, 12 ≠ n -> (d'.setIfInBounds 12 true).getD n false = d'.getD n false := fun n h => getD_set_ne false h
     have D12 : (d'.setIfInBounds 12 true).getD 12 false = true := setB_same hun
     have D0 := DO 0 (by decide)
     have D1 := DO 1 (by decide)
     have D2 := DO 2 (by decide)
     have D3 := DO 3 (by decide)
     have D4 := DO 4 (by decide)
     have D5 := DO 5 (by decide)
     have D6 := DO 6 (by decide)
     have D7 := DO 7 (by decide)
     have D8 := DO 8 (by decide)
     have D9 := DO 9 (by decide)
     have D10 := DO 10 (by decide)
     have D11 := DO 11 (by decide)
     have H12 := undoneF hun
     have hL := H12
     have hgr := I.gro hL
     obtain ⟨z11_0, e24, q11_0, q11_1⟩ := I.o11 (hall ⟨11, .data⟩ (by simp) rfl) hL
     have UO : ∀ n, n ≠ 4 -> updB us 4 (.int .i64 z11_0) n = us n := fun n h => updB_other h
     have U4 : updB us 4 (.int .i64 z11_0) 4 = (.int .i64 z11_0) := updB_same _ _ _
     have U0 := UO 0 (by decide)
     have U1 := UO 1 (by decide)
     have U13 := UO 13 (by decide)
     have U14 := UO 14 (by decide)
     have U15 := UO 15 (by decide)
     have U16 := UO 16 (by decide)
     have U17 := UO 17 (by decide)
     have U18 := UO 18 (by decide)
     have U19 := UO 19 (by decide)
     have U20 := UO 20 (by decide)
     have U21 := UO 21 (by decide)
     have U22 := UO 22 (by decide)
     have U23 := UO 23 (by decide)
     have U24 := UO 24 (by decide)
     refine wpOp_step rfl (fun K hK => ?_)
     simp only [frDy, e0, e1, e24]
     go_simp
     refine hK _ _ ⟨updB us 4 (.int .i64 z11_0), by simp [frDy, updB, Act.put, e0, e1, e24], { u0 := (U0.trans I.u0), u1 := (U1.trans I.u1), src := hs, gr1 := I.gr1, gro := (fun h => by rw [D12] at h; cases h), o0 := (fun _ h => by rw [D12] at h; cases h), o1 := (fun _ h => by rw [D12] at h; cases h), o2 := (fun _ h => by rw [D12] at h; cases h), o3 := (fun _ h => by rw [D12] at h; cases h), o4 := (fun _ h => by rw [D12] at h; cases h), o5 := (fun _ h => by rw [D12] at h; cases h), o6 := (fun _ h => by rw [D12] at h; cases h), o7 := (fun _ h => by rw [D12] at h; cases h), o8 := (fun _ h => by rw [D12] at h; cases h), o9 := (fun _ h => by rw [D12] at h; cases h), o10 := (fun _ h => by rw [D12] at h; cases h), o11 := (fun _ h => by rw [D12] at h; cases h), o12 := (fun _ => ⟨z11_0, U4, q11_0, q11_1, hgr⟩) }⟩
   ·
    intro d' a' W hd hall hI
    obtain ⟨us, rfl, I⟩ := hI
    have D : ∀ k, k < 13 -> d'.getD k false = true := fun k hk => by
     have := hall k hk
     have hk2 : k < d'.size := by rw [hd]; exact hk
     simp [hk2] at this ⊢; exact this
    have oL := I.o12 (D 12 (by decide))
    have e0 := I.u0
    have e1 := I.u1
    have hsR := I.src
    have hgR1 := I.gr1
    clear I D hall hd
    obtain ⟨y, e4, hy0, hy1, gW⟩ := oL
    clear hgR1
    simp only [frDy, e4]
    go_wp2_with fail
    go_ret
    exact ⟨y, rfl, hy0, hy1, hsR, hg1q.trans gW⟩
  ·
   have dr : decide (0 < r) = false := decide_eq_false hr
   clear h
   go_wp2_with fail
   refine (next_any g 100 base A c bs _ hsq (by omega)).mono ?_
   rintro e w2 ⟨r', rfl, q0, q1, h2, g2⟩
   clear hsq
   go_wp2_with fail
   go_ret
   exact ⟨_, rfl, by omega, by omega, h2, hg1q.trans g2⟩
end Go.Proofs.YtjcklmhgjdmjoaaGreat

namespace Go.Proofs.YtjcklmhgjdmjoaaGreat
open Go.ChangeShapes Go.WideShapes Go.ChangeAt Go.RowKit
set_option linter.unusedVariables false
section
variable {P : Program} {ops : Array Oper} {Q : Exit -> Act -> World -> Prop}
def backA (ops : Array Oper) : Bool := (List.range ops.size).all fun i => match ops[i]? with | some o => o.after.all (fun e => !Region.binds .any e || decide (e.on < i)) | none => true
theorem ready_nilA {d : Array Bool} (hb : backA ops = true) (hsz : d.size = ops.size) (hr : Region.ready .any ops d = []) : ∀ i, i < ops.size -> d.getD i true = true := by
 intro i
 induction i using Nat.strongRecOn with
 | _ i ih =>
  intro hi
  cases hd : d.getD i true with
  | true => rfl
  | false =>
   exfalso
   have hoi : ops[i]? = some ops[i] := Array.getElem?_eq_getElem hi
   have : i ∈ Region.ready .any ops d := by
    refine mem_ready.2 ⟨hd, _, hoi, fun e he hbd => ?_⟩
    have h1 := List.all_eq_true.1 hb i (List.mem_range.2 hi)
    simp only [hoi] at h1
    have h2 : e.on < i := by
     have := Array.all_eq_true'.1 h1 e he
     rw [hbd] at this
     simpa using this
    have h3 := ih e.on h2 (by omega)
    have hlt : e.on < d.size := by omega
    simp [hlt] at h3 ⊢
    exact h3
   rw [hr] at this; cases this
theorem region_invA {id : Nat} {a : Act} {w : World} (hm : P.follows .mixedOrders = true) (hb : backA ops = true) (Inv : Array Bool -> Act -> World -> Prop) (h0 : Inv (Array.replicate ops.size false) a w.drew)
  (hstep : ∀ i d a w, i ∈ Region.ready .any ops d -> Inv d a w -> wpOp P ops Q i (fun a' w' => Inv (d.setIfInBounds i true) a' w') a w)
  (hend : ∀ d a w, d.size = ops.size -> (∀ i, i < ops.size -> d.getD i true = true) -> Inv d a w -> Q .normal a w) : (Code.region id ops true).wp P Q a w :=
 wp_region_any hm (any_inv (fun d a w => d.size = ops.size /\ Inv d a w)
  (fun i d a w hi hI => wpOp_mono (fun a' w' h => ⟨by rw [Array.size_setIfInBounds]; exact hI.1, h⟩) (hstep i d a w hi hI.2))
  (fun d a w hI hr => hend d a w hI.1 (ready_nilA hb hI.1 hr) hI.2) _ _ a w.drew (undone_le _ _) ⟨by simp, h0⟩)
end
end Go.Proofs.YtjcklmhgjdmjoaaGreat

namespace Go.Proofs.YtjcklmhgjdmjoaaGreat
open Go.ChangeShapes Go.WideShapes Go.ChangeAt Go.RowKit
set_option linter.unusedVariables false
def codesY : List (List UInt8) := [[97, 97], [99, 99], [101, 101], [122, 122]]
def frYo (us : Nat -> Value) : Act := { tmps := #[us 0, us 1, us 2, us 3, us 4, us 5, us 6, us 7, us 8, us 9, us 10, us 11, us 12, us 13, us 14, us 15], defers := [] }
theorem frYo_of {x0 x1 x2 x3 x4 x5 x6 x7 x8 x9 x10 x11 x12 x13 x14 x15 : Value} : ({ tmps := #[x0, x1, x2, x3, x4, x5, x6, x7, x8, x9, x10, x11, x12, x13, x14, x15], defers := [] } : Act) = frYo (fun k => #[x0, x1, x2, x3, x4, x5, x6, x7, x8, x9, x10, x11, x12, x13, x14, x15].getD k undef) := rfl
structure InvYo (base g : Nat) (A : Option Addr) (c : Nat) (bs : List Int) (nn dd : Nat) (B : Option Addr) (w : World) (d : Array Bool) (us : Nat -> Value) (W : World) : Prop where
 u4 : us 4 = .pointer (some ⟨g, 0, none⟩)
 u5 : us 5 = .slice B nn dd
 src : Src W base g A c bs
 gro : w.grownBy W (some g)
 o0 : d.getD 0 false = true -> us 10 = .slice B nn dd
 o1 : d.getD 1 false = true -> ∃ (B : Nat), us 11 = .slice (some ⟨B, 0, none⟩) 4 4 /\ W.heap[B]? = some (.cells (codesY.map strC).toArray 9 (0, 0)) /\ B ≠ g
 o2 : d.getD 2 false = true -> us 12 = .pointer (some ⟨g, 0, none⟩)
 o3 : d.getD 3 false = true -> ∃ z : Int, us 13 = .int .i64 z /\ 0 <= z /\ z <= 3
 o4 : d.getD 4 false = true -> ∃ (B2 : Nat) (z : Nat), us 14 = .pointer (some ⟨B2, z, none⟩) /\ W.heap[B2]? = some (.cells (codesY.map strC).toArray 9 (0, 0)) /\ B2 ≠ g /\ z < 4
 o5 : d.getD 5 false = true -> ∃ (s : List UInt8), us 15 = .string ⟨s.toArray⟩ /\ s.length <= 2
 o6 : d.getD 6 false = true -> us 2 = .slice B nn dd
 o7 : d.getD 7 false = true -> ∃ (s : List UInt8), us 3 = .string ⟨s.toArray⟩ /\ s.length <= 2
theorem DrE.putb {w : World} {lo n c R j : Nat} {v : Value} {A : Option Addr} {hs : List Edh} {es : List Edn} (h : DrE w lo A n c hs es) (hR : R < lo) : DrE (w.setCell ⟨R, j, none⟩ v) lo A n c hs es :=
 ⟨ownsRow_setCell_below h.row (a := ⟨R, j, none⟩) hR v, h.len, fun k x e h1 h2 => ⟨(h.one k x e h1 h2).1, (h.one k x e h1 h2).2.1, ownsRow_setCell_below (h.one k x e h1 h2).2.2 (a := ⟨R, j, none⟩) hR v⟩, h.sep, h.bd⟩
theorem ednSz : (Tryz.prog.info? 42).map (·.size) = some 2 := by kernel_rfl
theorem results_tmp_cell_rowD {P : Program} {fn : Func} {p u : Tmp} {ty : TypeId} (h : fn.results = #[.tmp u, .cell p ty]) (tmps : Array Value) (w : World) (g : Nat) (t : TypeId) (cs : Array Value) (fr : Nat × Nat) (d : TypeDesc)
  (hp : tmps.getD p undef = .pointer (some ⟨g, 0, none⟩)) (hg : w.heap[g]? = some (.cells cs t fr))
  (hu : P.underlying ty = some d) (hd : (match d with | .struct _ | .array _ _ => true | _ => false) = true) (hi : (P.info? ty).map (·.size) = some cs.size) :
  (results fn tmps).run P w = .ok (.tuple #[tmps.getD u undef, .agg cs]) w := by
 have hp' : tmps[p]?.getD undef = .pointer (some ⟨g, 0, none⟩) := by simpa using hp
 simp [results, h, hp', asAddr, run_loadVar_row w g t ty cs fr d hg hu hd hi, Sem.run_bind, Result.andThen]
set_option maxRecDepth 100000 in
set_option maxHeartbeats 2000000 in
theorem drawEF (A : Option Addr) (c : Nat) (bs : List Int) (w : World) (h : Code0 w A bs) :
  Calls Tryz.prog 12 #[.slice A bs.length c] w (fun e w' => ∃ B d hs es y, e = .returned (.tuple #[.slice B (List.length es) d, .int .i64 y]) /\ es.length <= 8 /\ (-1 <= y /\ y <= 5001) /\ DrE w' w.heap.size B es.length d hs es /\ Below w.heap.size w w') := by
 go_enter Tryz.func12, Tryz.ntmps12
 go_wp2_with fail
 refine (code_from A c bs _ h).mono ?_
 rintro e w1 ⟨g, rfl, s1, b1⟩
 have hg := s1.lt
 go_wp2_with fail
 refine (draw_e g _ A c bs _ s1).mono ?_
 rintro e w2 ⟨B, d, hs, es, rfl, hl8, d2, s2, g2⟩
 go_wp2_with fail
 refine (year_e g _ A c bs _ s2 w1.heap.size es.length d B hs es d2 hg hl8).mono ?_
 rintro e w3 ⟨y, rfl, hy0, hy1, s3, g3⟩
 have d3 := (d2.src g3 hg).mono b1.size
 have hb := src_below b1 (g2.trans g3) s1.1
 clear d2 s2 s3 g2 g3
 go_wp2_with fail
 go_ret2
 exact ⟨B, d, hs, es, y, rfl, hl8, ⟨hy0, hy1⟩, d3, hb⟩
set_option maxRecDepth 100000 in
set_option maxHeartbeats 8000000 in
theorem drawYO (A : Option Addr) (c : Nat) (bs : List Int) (w : World) (h : Code0 w A bs) :
  Calls Tryz.prog 21 #[.slice A bs.length c] w (fun e w' => ∃ B d hs es s, e = .returned (.tuple #[.slice B (List.length es) d, .string ⟨(s : List UInt8).toArray⟩]) /\ s.length <= 2 /\ es.length <= 8 /\ DrE w' w.heap.size B es.length d hs es /\ Below w.heap.size w w') := by
 go_enter Tryz.func21, Tryz.ntmps21
 go_wp2_with fail
 refine (code_from A c bs _ h).mono ?_
 rintro e w1 ⟨g, rfl, s1, b1⟩
 have hg := s1.lt
 obtain ⟨base, hbase⟩ : ∃ x, x = w.heap.size := ⟨_, rfl⟩
 rw [<- hbase] at s1
 have hb0 := Lib.hid (show base <= g from s1.1)
 have hbase := Lib.hid hbase
 have hB1 := Lib.hid b1
 clear b1 h
 go_wp2_with fail
 refine (draw_e g _ A c bs _ s1).mono ?_
 rintro e wq ⟨B, dd, hs, es, rfl, hl8, d2, hsq, g2⟩
 have D2 := Lib.hid d2
 have G2 := Lib.hid g2
 have hl8 := Lib.hid hl8
 clear s1 d2 g2
 go_wp2_with fail
 refine region_invA (by kernel_rfl) (by kernel_rfl) (fun d' a' W => ∃ us, a' = frYo us /\ InvYo base g A c bs es.length dd B wq d' us W) ?_ ?_ ?_
 ·
  refine ⟨_, frYo_of, ?_⟩
  have Z : ∀ k, (Array.replicate 8 false).getD k false = false := fun k => by
   rcases Nat.lt_or_ge k 8 with h | h
   ·
    simp [h]
   ·
    simp [Array.getElem?_eq_none, h]
  have Zn : ∀ {k : Nat} {p : Prop}, (Array.replicate 8 false).getD k false = true -> p := fun {k p} h => by rw [Z k] at h; cases h
  exact { u4 := rfl, u5 := rfl, src := hsq, gro := ⟨rfl, rfl, rfl, Nat.le_refl _, fun _ _ _ => rfl⟩, o0 := Zn, o1 := Zn, o2 := Zn, o3 := Zn, o4 := Zn, o5 := Zn, o6 := Zn, o7 := Zn }
 ·
  intro i d' a' W hi hI
  obtain ⟨hun, oi, hoi, hall⟩ := mem_ready.1 hi
  have hlt : i < 8 := (Array.getElem?_eq_some_iff.1 hoi).1
  obtain ⟨us, rfl, I⟩ := hI
  have hs := I.src
  have hgW := hs.lt
  have hgr := I.gro
  have e4 := I.u4
  have e5 := I.u5
  rcases (by omega : i = 0 ∨ i = 1 ∨ i = 2 ∨ i = 3 ∨ i = 4 ∨ i = 5 ∨ i = 6 ∨ i = 7) with rfl | rfl | rfl | rfl | rfl | rfl | rfl | rfl
  all_goals
   obtain rfl := Option.some.inj hoi
   clear hoi hlt hi
  ·
   skip
   have D0 : (d'.setIfInBounds 0 true).getD 0 false = true := setB_same hun
   have D1 : (d'.setIfInBounds 0 true).getD 1 false = d'.getD 1 false := getD_set_ne false (by decide)
   have D2 : (d'.setIfInBounds 0 true).getD 2 false = d'.getD 2 false := getD_set_ne false (by decide)
   have D3 : (d'.setIfInBounds 0 true).getD 3 false = d'.getD 3 false := getD_set_ne false (by decide)
   have D4 : (d'.setIfInBounds 0 true).getD 4 false = d'.getD 4 false := getD_set_ne false (by decide)
   have D5 : (d'.setIfInBounds 0 true).getD 5 false = d'.getD 5 false := getD_set_ne false (by decide)
   have D6 : (d'.setIfInBounds 0 true).getD 6 false = d'.getD 6 false := getD_set_ne false (by decide)
   have D7 : (d'.setIfInBounds 0 true).getD 7 false = d'.getD 7 false := getD_set_ne false (by decide)
   refine wpOp_step rfl (fun K hK => ?_)
   simp only [frYo, e4, e5]
   go_simp
   have U2 : updB us 10 (.slice B es.length dd) 2 = us 2 := updB_other (by decide)
   have U3 : updB us 10 (.slice B es.length dd) 3 = us 3 := updB_other (by decide)
   have U4 : updB us 10 (.slice B es.length dd) 4 = us 4 := updB_other (by decide)
   have U5 : updB us 10 (.slice B es.length dd) 5 = us 5 := updB_other (by decide)
   have U10 : updB us 10 (.slice B es.length dd) 10 = (.slice B es.length dd) := updB_same _ _ _
   have U11 : updB us 10 (.slice B es.length dd) 11 = us 11 := updB_other (by decide)
   have U12 : updB us 10 (.slice B es.length dd) 12 = us 12 := updB_other (by decide)
   have U13 : updB us 10 (.slice B es.length dd) 13 = us 13 := updB_other (by decide)
   have U14 : updB us 10 (.slice B es.length dd) 14 = us 14 := updB_other (by decide)
   have U15 : updB us 10 (.slice B es.length dd) 15 = us 15 := updB_other (by decide)
   refine hK _ _ ⟨updB us 10 (.slice B es.length dd), by simp [frYo, updB, Act.put, e4, e5], { u4 := (U4.trans I.u4), u5 := (U5.trans I.u5), src := hs, gro := hgr, o0 := (fun _ => U10), o1 := (fun h => by rw [U11]; obtain ⟨B2, g1, g2, g3⟩ := I.o1 (D1.symm.trans h); exact ⟨B2, g1, g2, g3⟩), o2 := (fun h => by rw [U12]; exact I.o2 (D2.symm.trans h)), o3 := (fun h => by rw [U13]; exact I.o3 (D3.symm.trans h)), o4 := (fun h => by rw [U14]; obtain ⟨B2, y2, g1, g2, g3, g4⟩ := I.o4 (D4.symm.trans h); exact ⟨B2, y2, g1, g2, g3, g4⟩), o5 := (fun h => by rw [U15]; exact I.o5 (D5.symm.trans h)), o6 := (fun h => by rw [U2]; exact I.o6 (D6.symm.trans h)), o7 := (fun h => by rw [U3]; exact I.o7 (D7.symm.trans h)) }⟩
  ·
   skip
   have D1 : (d'.setIfInBounds 1 true).getD 1 false = true := setB_same hun
   have D0 : (d'.setIfInBounds 1 true).getD 0 false = d'.getD 0 false := getD_set_ne false (by decide)
   have D2 : (d'.setIfInBounds 1 true).getD 2 false = d'.getD 2 false := getD_set_ne false (by decide)
   have D3 : (d'.setIfInBounds 1 true).getD 3 false = d'.getD 3 false := getD_set_ne false (by decide)
   have D4 : (d'.setIfInBounds 1 true).getD 4 false = d'.getD 4 false := getD_set_ne false (by decide)
   have D5 : (d'.setIfInBounds 1 true).getD 5 false = d'.getD 5 false := getD_set_ne false (by decide)
   have D6 : (d'.setIfInBounds 1 true).getD 6 false = d'.getD 6 false := getD_set_ne false (by decide)
   have D7 : (d'.setIfInBounds 1 true).getD 7 false = d'.getD 7 false := getD_set_ne false (by decide)
   refine wpOp_step rfl (fun K hK => ?_)
   simp only [frYo, e4, e5]
   go_simp
   have U2 : updB us 11 (.slice (some ⟨W.heap.size, 0, none⟩) 4 4) 2 = us 2 := updB_other (by decide)
   have U3 : updB us 11 (.slice (some ⟨W.heap.size, 0, none⟩) 4 4) 3 = us 3 := updB_other (by decide)
   have U4 : updB us 11 (.slice (some ⟨W.heap.size, 0, none⟩) 4 4) 4 = us 4 := updB_other (by decide)
   have U5 : updB us 11 (.slice (some ⟨W.heap.size, 0, none⟩) 4 4) 5 = us 5 := updB_other (by decide)
   have U10 : updB us 11 (.slice (some ⟨W.heap.size, 0, none⟩) 4 4) 10 = us 10 := updB_other (by decide)
   have U11 : updB us 11 (.slice (some ⟨W.heap.size, 0, none⟩) 4 4) 11 = (.slice (some ⟨W.heap.size, 0, none⟩) 4 4) := updB_same _ _ _
   have U12 : updB us 11 (.slice (some ⟨W.heap.size, 0, none⟩) 4 4) 12 = us 12 := updB_other (by decide)
   have U13 : updB us 11 (.slice (some ⟨W.heap.size, 0, none⟩) 4 4) 13 = us 13 := updB_other (by decide)
   have U14 : updB us 11 (.slice (some ⟨W.heap.size, 0, none⟩) 4 4) 14 = us 14 := updB_other (by decide)
   have U15 : updB us 11 (.slice (some ⟨W.heap.size, 0, none⟩) 4 4) 15 = us 15 := updB_other (by decide)
   refine hK _ _ ⟨updB us 11 (.slice (some ⟨W.heap.size, 0, none⟩) 4 4), by simp [frYo, updB, Act.put, e4, e5], { u4 := (U4.trans I.u4), u5 := (U5.trans I.u5), src := (hs.alloc _), gro := (grown_alloc hgr _), o0 := (fun h => by rw [U10]; exact I.o0 (D0.symm.trans h)), o1 := (fun _ => ⟨W.heap.size, U11, heap_alloc_new W _, by omega⟩), o2 := (fun h => by rw [U12]; exact I.o2 (D2.symm.trans h)), o3 := (fun h => by rw [U13]; exact I.o3 (D3.symm.trans h)), o4 := (fun h => by rw [U14]; obtain ⟨B2, y2, g1, g2, g3, g4⟩ := I.o4 (D4.symm.trans h); exact ⟨B2, y2, g1, ((heap_alloc_old W _ (lt_some g2)).trans g2), g3, g4⟩), o5 := (fun h => by rw [U15]; exact I.o5 (D5.symm.trans h)), o6 := (fun h => by rw [U2]; exact I.o6 (D6.symm.trans h)), o7 := (fun h => by rw [U3]; exact I.o7 (D7.symm.trans h)) }⟩
  ·
   skip
   have D2 : (d'.setIfInBounds 2 true).getD 2 false = true := setB_same hun
   have D0 : (d'.setIfInBounds 2 true).getD 0 false = d'.getD 0 false := getD_set_ne false (by decide)
   have D1 : (d'.setIfInBounds 2 true).getD 1 false = d'.getD 1 false := getD_set_ne false (by decide)
   have D3 : (d'.setIfInBounds 2 true).getD 3 false = d'.getD 3 false := getD_set_ne false (by decide)
   have D4 : (d'.setIfInBounds 2 true).getD 4 false = d'.getD 4 false := getD_set_ne false (by decide)
   have D5 : (d'.setIfInBounds 2 true).getD 5 false = d'.getD 5 false := getD_set_ne false (by decide)
   have D6 : (d'.setIfInBounds 2 true).getD 6 false = d'.getD 6 false := getD_set_ne false (by decide)
   have D7 : (d'.setIfInBounds 2 true).getD 7 false = d'.getD 7 false := getD_set_ne false (by decide)
   refine wpOp_step rfl (fun K hK => ?_)
   simp only [frYo, e4, e5]
   go_simp
   have U2 : updB us 12 (.pointer (some ⟨g, 0, none⟩)) 2 = us 2 := updB_other (by decide)
   have U3 : updB us 12 (.pointer (some ⟨g, 0, none⟩)) 3 = us 3 := updB_other (by decide)
   have U4 : updB us 12 (.pointer (some ⟨g, 0, none⟩)) 4 = us 4 := updB_other (by decide)
   have U5 : updB us 12 (.pointer (some ⟨g, 0, none⟩)) 5 = us 5 := updB_other (by decide)
   have U10 : updB us 12 (.pointer (some ⟨g, 0, none⟩)) 10 = us 10 := updB_other (by decide)
   have U11 : updB us 12 (.pointer (some ⟨g, 0, none⟩)) 11 = us 11 := updB_other (by decide)
   have U12 : updB us 12 (.pointer (some ⟨g, 0, none⟩)) 12 = (.pointer (some ⟨g, 0, none⟩)) := updB_same _ _ _
   have U13 : updB us 12 (.pointer (some ⟨g, 0, none⟩)) 13 = us 13 := updB_other (by decide)
   have U14 : updB us 12 (.pointer (some ⟨g, 0, none⟩)) 14 = us 14 := updB_other (by decide)
   have U15 : updB us 12 (.pointer (some ⟨g, 0, none⟩)) 15 = us 15 := updB_other (by decide)
   refine hK _ _ ⟨updB us 12 (.pointer (some ⟨g, 0, none⟩)), by simp [frYo, updB, Act.put, e4, e5], { u4 := (U4.trans I.u4), u5 := (U5.trans I.u5), src := hs, gro := hgr, o0 := (fun h => by rw [U10]; exact I.o0 (D0.symm.trans h)), o1 := (fun h => by rw [U11]; obtain ⟨B2, g1, g2, g3⟩ := I.o1 (D1.symm.trans h); exact ⟨B2, g1, g2, g3⟩), o2 := (fun _ => U12), o3 := (fun h => by rw [U13]; exact I.o3 (D3.symm.trans h)), o4 := (fun h => by rw [U14]; obtain ⟨B2, y2, g1, g2, g3, g4⟩ := I.o4 (D4.symm.trans h); exact ⟨B2, y2, g1, g2, g3, g4⟩), o5 := (fun h => by rw [U15]; exact I.o5 (D5.symm.trans h)), o6 := (fun h => by rw [U2]; exact I.o6 (D6.symm.trans h)), o7 := (fun h => by rw [U3]; exact I.o7 (D7.symm.trans h)) }⟩
  ·
   skip
   have D3 : (d'.setIfInBounds 3 true).getD 3 false = true := setB_same hun
   have D0 : (d'.setIfInBounds 3 true).getD 0 false = d'.getD 0 false := getD_set_ne false (by decide)
   have D1 : (d'.setIfInBounds 3 true).getD 1 false = d'.getD 1 false := getD_set_ne false (by decide)
   have D2 : (d'.setIfInBounds 3 true).getD 2 false = d'.getD 2 false := getD_set_ne false (by decide)
   have D4 : (d'.setIfInBounds 3 true).getD 4 false = d'.getD 4 false := getD_set_ne false (by decide)
   have D5 : (d'.setIfInBounds 3 true).getD 5 false = d'.getD 5 false := getD_set_ne false (by decide)
   have D6 : (d'.setIfInBounds 3 true).getD 6 false = d'.getD 6 false := getD_set_ne false (by decide)
   have D7 : (d'.setIfInBounds 3 true).getD 7 false = d'.getD 7 false := getD_set_ne false (by decide)
   have e12 := I.o2 (hall ⟨2, .data⟩ (by simp) rfl)
   refine wpOp_step rfl (fun K hK => ?_)
   simp only [frYo, e4, e5, e12]
   go_simp
   go_wp2_with (go_at_call 55; refine (next_any g _ base A c bs _ hs (by omega)).mono ?_; rintro e w2 ⟨r, rfl, r0, r1, hs2, hg2⟩)
   have U2 : updB us 13 (.int .i64 r) 2 = us 2 := updB_other (by decide)
   have U3 : updB us 13 (.int .i64 r) 3 = us 3 := updB_other (by decide)
   have U4 : updB us 13 (.int .i64 r) 4 = us 4 := updB_other (by decide)
   have U5 : updB us 13 (.int .i64 r) 5 = us 5 := updB_other (by decide)
   have U10 : updB us 13 (.int .i64 r) 10 = us 10 := updB_other (by decide)
   have U11 : updB us 13 (.int .i64 r) 11 = us 11 := updB_other (by decide)
   have U12 : updB us 13 (.int .i64 r) 12 = us 12 := updB_other (by decide)
   have U13 : updB us 13 (.int .i64 r) 13 = (.int .i64 r) := updB_same _ _ _
   have U14 : updB us 13 (.int .i64 r) 14 = us 14 := updB_other (by decide)
   have U15 : updB us 13 (.int .i64 r) 15 = us 15 := updB_other (by decide)
   exact ⟨updB us 13 (.int .i64 r), by simp [frYo, updB, Act.put, e4, e5, e12], { u4 := (U4.trans I.u4), u5 := (U5.trans I.u5), src := hs2, gro := (hgr.trans hg2), o0 := (fun h => by rw [U10]; exact I.o0 (D0.symm.trans h)), o1 := (fun h => by rw [U11]; obtain ⟨B2, g1, g2, g3⟩ := I.o1 (D1.symm.trans h); exact ⟨B2, g1, (keepG hg2 g2 g3), g3⟩), o2 := (fun h => by rw [U12]; exact I.o2 (D2.symm.trans h)), o3 := (fun _ => ⟨r, U13, by omega, by omega⟩), o4 := (fun h => by rw [U14]; obtain ⟨B2, y2, g1, g2, g3, g4⟩ := I.o4 (D4.symm.trans h); exact ⟨B2, y2, g1, (keepG hg2 g2 g3), g3, g4⟩), o5 := (fun h => by rw [U15]; exact I.o5 (D5.symm.trans h)), o6 := (fun h => by rw [U2]; exact I.o6 (D6.symm.trans h)), o7 := (fun h => by rw [U3]; exact I.o7 (D7.symm.trans h)) }⟩
  ·
   skip
   have D4 : (d'.setIfInBounds 4 true).getD 4 false = true := setB_same hun
   have D0 : (d'.setIfInBounds 4 true).getD 0 false = d'.getD 0 false := getD_set_ne false (by decide)
   have D1 : (d'.setIfInBounds 4 true).getD 1 false = d'.getD 1 false := getD_set_ne false (by decide)
   have D2 : (d'.setIfInBounds 4 true).getD 2 false = d'.getD 2 false := getD_set_ne false (by decide)
   have D3 : (d'.setIfInBounds 4 true).getD 3 false = d'.getD 3 false := getD_set_ne false (by decide)
   have D5 : (d'.setIfInBounds 4 true).getD 5 false = d'.getD 5 false := getD_set_ne false (by decide)
   have D6 : (d'.setIfInBounds 4 true).getD 6 false = d'.getD 6 false := getD_set_ne false (by decide)
   have D7 : (d'.setIfInBounds 4 true).getD 7 false = d'.getD 7 false := getD_set_ne false (by decide)
   obtain ⟨B1, e11, hB1, hBg1⟩ := I.o1 (hall ⟨1, .data⟩ (by simp) rfl)
   obtain ⟨z3, e13, za3, zb3⟩ := I.o3 (hall ⟨3, .data⟩ (by simp) rfl)
   obtain ⟨kz, rfl⟩ := Int.eq_ofNat_of_zero_le za3
   have hkz : kz < 4 := by omega
   refine wpOp_step rfl (fun K hK => ?_)
   simp only [frYo, e4, e5, e11, e13]
   go_simp
   try (rw [if_pos (by omega)]; go_simp)
   have U2 : updB us 14 (.pointer (some ⟨B1, kz, none⟩)) 2 = us 2 := updB_other (by decide)
   have U3 : updB us 14 (.pointer (some ⟨B1, kz, none⟩)) 3 = us 3 := updB_other (by decide)
   have U4 : updB us 14 (.pointer (some ⟨B1, kz, none⟩)) 4 = us 4 := updB_other (by decide)
   have U5 : updB us 14 (.pointer (some ⟨B1, kz, none⟩)) 5 = us 5 := updB_other (by decide)
   have U10 : updB us 14 (.pointer (some ⟨B1, kz, none⟩)) 10 = us 10 := updB_other (by decide)
   have U11 : updB us 14 (.pointer (some ⟨B1, kz, none⟩)) 11 = us 11 := updB_other (by decide)
   have U12 : updB us 14 (.pointer (some ⟨B1, kz, none⟩)) 12 = us 12 := updB_other (by decide)
   have U13 : updB us 14 (.pointer (some ⟨B1, kz, none⟩)) 13 = us 13 := updB_other (by decide)
   have U14 : updB us 14 (.pointer (some ⟨B1, kz, none⟩)) 14 = (.pointer (some ⟨B1, kz, none⟩)) := updB_same _ _ _
   have U15 : updB us 14 (.pointer (some ⟨B1, kz, none⟩)) 15 = us 15 := updB_other (by decide)
   refine hK _ _ ⟨updB us 14 (.pointer (some ⟨B1, kz, none⟩)), by simp [frYo, updB, Act.put, e4, e5, e11, e13], { u4 := (U4.trans I.u4), u5 := (U5.trans I.u5), src := hs, gro := hgr, o0 := (fun h => by rw [U10]; exact I.o0 (D0.symm.trans h)), o1 := (fun h => by rw [U11]; obtain ⟨B2, g1, g2, g3⟩ := I.o1 (D1.symm.trans h); exact ⟨B2, g1, g2, g3⟩), o2 := (fun h => by rw [U12]; exact I.o2 (D2.symm.trans h)), o3 := (fun h => by rw [U13]; exact I.o3 (D3.symm.trans h)), o4 := (fun _ => ⟨B1, kz, U14, hB1, hBg1, hkz⟩), o5 := (fun h => by rw [U15]; exact I.o5 (D5.symm.trans h)), o6 := (fun h => by rw [U2]; exact I.o6 (D6.symm.trans h)), o7 := (fun h => by rw [U3]; exact I.o7 (D7.symm.trans h)) }⟩
  ·
   skip
   have D5 : (d'.setIfInBounds 5 true).getD 5 false = true := setB_same hun
   have D0 : (d'.setIfInBounds 5 true).getD 0 false = d'.getD 0 false := getD_set_ne false (by decide)
   have D1 : (d'.setIfInBounds 5 true).getD 1 false = d'.getD 1 false := getD_set_ne false (by decide)
   have D2 : (d'.setIfInBounds 5 true).getD 2 false = d'.getD 2 false := getD_set_ne false (by decide)
   have D3 : (d'.setIfInBounds 5 true).getD 3 false = d'.getD 3 false := getD_set_ne false (by decide)
   have D4 : (d'.setIfInBounds 5 true).getD 4 false = d'.getD 4 false := getD_set_ne false (by decide)
   have D6 : (d'.setIfInBounds 5 true).getD 6 false = d'.getD 6 false := getD_set_ne false (by decide)
   have D7 : (d'.setIfInBounds 5 true).getD 7 false = d'.getD 7 false := getD_set_ne false (by decide)
   obtain ⟨z4_0, z4_1, e14, q4_0, q4_1, q4_2⟩ := I.o4 (hall ⟨4, .data⟩ (by simp) rfl)
   obtain ⟨s, hsl, hv⟩ := text_atC (ts := codesY) (n := 2) (by decide) (k := z4_1) q4_2
   have hcell := cell_code q4_0 hv
   clear hv
   refine wpOp_step rfl (fun K hK => ?_)
   simp only [frYo, e4, e5, e14]
   go_simp
   have U2 : updB us 15 (.string ⟨s.toArray⟩) 2 = us 2 := updB_other (by decide)
   have U3 : updB us 15 (.string ⟨s.toArray⟩) 3 = us 3 := updB_other (by decide)
   have U4 : updB us 15 (.string ⟨s.toArray⟩) 4 = us 4 := updB_other (by decide)
   have U5 : updB us 15 (.string ⟨s.toArray⟩) 5 = us 5 := updB_other (by decide)
   have U10 : updB us 15 (.string ⟨s.toArray⟩) 10 = us 10 := updB_other (by decide)
   have U11 : updB us 15 (.string ⟨s.toArray⟩) 11 = us 11 := updB_other (by decide)
   have U12 : updB us 15 (.string ⟨s.toArray⟩) 12 = us 12 := updB_other (by decide)
   have U13 : updB us 15 (.string ⟨s.toArray⟩) 13 = us 13 := updB_other (by decide)
   have U14 : updB us 15 (.string ⟨s.toArray⟩) 14 = us 14 := updB_other (by decide)
   have U15 : updB us 15 (.string ⟨s.toArray⟩) 15 = (.string ⟨s.toArray⟩) := updB_same _ _ _
   refine hK _ _ ⟨updB us 15 (.string ⟨s.toArray⟩), by simp [frYo, updB, Act.put, e4, e5, e14], { u4 := (U4.trans I.u4), u5 := (U5.trans I.u5), src := hs, gro := hgr, o0 := (fun h => by rw [U10]; exact I.o0 (D0.symm.trans h)), o1 := (fun h => by rw [U11]; obtain ⟨B2, g1, g2, g3⟩ := I.o1 (D1.symm.trans h); exact ⟨B2, g1, g2, g3⟩), o2 := (fun h => by rw [U12]; exact I.o2 (D2.symm.trans h)), o3 := (fun h => by rw [U13]; exact I.o3 (D3.symm.trans h)), o4 := (fun h => by rw [U14]; obtain ⟨B2, y2, g1, g2, g3, g4⟩ := I.o4 (D4.symm.trans h); exact ⟨B2, y2, g1, g2, g3, g4⟩), o5 := (fun _ => ⟨s, U15, hsl⟩), o6 := (fun h => by rw [U2]; exact I.o6 (D6.symm.trans h)), o7 := (fun h => by rw [U3]; exact I.o7 (D7.symm.trans h)) }⟩
  ·
   skip
   have D6 : (d'.setIfInBounds 6 true).getD 6 false = true := setB_same hun
   have D0 : (d'.setIfInBounds 6 true).getD 0 false = d'.getD 0 false := getD_set_ne false (by decide)
   have D1 : (d'.setIfInBounds 6 true).getD 1 false = d'.getD 1 false := getD_set_ne false (by decide)
   have D2 : (d'.setIfInBounds 6 true).getD 2 false = d'.getD 2 false := getD_set_ne false (by decide)
   have D3 : (d'.setIfInBounds 6 true).getD 3 false = d'.getD 3 false := getD_set_ne false (by decide)
   have D4 : (d'.setIfInBounds 6 true).getD 4 false = d'.getD 4 false := getD_set_ne false (by decide)
   have D5 : (d'.setIfInBounds 6 true).getD 5 false = d'.getD 5 false := getD_set_ne false (by decide)
   have D7 : (d'.setIfInBounds 6 true).getD 7 false = d'.getD 7 false := getD_set_ne false (by decide)
   have e10 := I.o0 (hall ⟨0, .data⟩ (by simp) rfl)
   refine wpOp_step rfl (fun K hK => ?_)
   simp only [frYo, e4, e5, e10]
   go_simp
   have U2 : updB us 2 (.slice B es.length dd) 2 = (.slice B es.length dd) := updB_same _ _ _
   have U3 : updB us 2 (.slice B es.length dd) 3 = us 3 := updB_other (by decide)
   have U4 : updB us 2 (.slice B es.length dd) 4 = us 4 := updB_other (by decide)
   have U5 : updB us 2 (.slice B es.length dd) 5 = us 5 := updB_other (by decide)
   have U10 : updB us 2 (.slice B es.length dd) 10 = us 10 := updB_other (by decide)
   have U11 : updB us 2 (.slice B es.length dd) 11 = us 11 := updB_other (by decide)
   have U12 : updB us 2 (.slice B es.length dd) 12 = us 12 := updB_other (by decide)
   have U13 : updB us 2 (.slice B es.length dd) 13 = us 13 := updB_other (by decide)
   have U14 : updB us 2 (.slice B es.length dd) 14 = us 14 := updB_other (by decide)
   have U15 : updB us 2 (.slice B es.length dd) 15 = us 15 := updB_other (by decide)
   refine hK _ _ ⟨updB us 2 (.slice B es.length dd), by simp [frYo, updB, Act.put, e4, e5, e10], { u4 := (U4.trans I.u4), u5 := (U5.trans I.u5), src := hs, gro := hgr, o0 := (fun h => by rw [U10]; exact I.o0 (D0.symm.trans h)), o1 := (fun h => by rw [U11]; obtain ⟨B2, g1, g2, g3⟩ := I.o1 (D1.symm.trans h); exact ⟨B2, g1, g2, g3⟩), o2 := (fun h => by rw [U12]; exact I.o2 (D2.symm.trans h)), o3 := (fun h => by rw [U13]; exact I.o3 (D3.symm.trans h)), o4 := (fun h => by rw [U14]; obtain ⟨B2, y2, g1, g2, g3, g4⟩ := I.o4 (D4.symm.trans h); exact ⟨B2, y2, g1, g2, g3, g4⟩), o5 := (fun h => by rw [U15]; exact I.o5 (D5.symm.trans h)), o6 := (fun _ => U2), o7 := (fun h => by rw [U3]; exact I.o7 (D7.symm.trans h)) }⟩
  ·
   skip
   have D7 : (d'.setIfInBounds 7 true).getD 7 false = true := setB_same hun
   have D0 : (d'.setIfInBounds 7 true).getD 0 false = d'.getD 0 false := getD_set_ne false (by decide)
   have D1 : (d'.setIfInBounds 7 true).getD 1 false = d'.getD 1 false := getD_set_ne false (by decide)
   have D2 : (d'.setIfInBounds 7 true).getD 2 false = d'.getD 2 false := getD_set_ne false (by decide)
   have D3 : (d'.setIfInBounds 7 true).getD 3 false = d'.getD 3 false := getD_set_ne false (by decide)
   have D4 : (d'.setIfInBounds 7 true).getD 4 false = d'.getD 4 false := getD_set_ne false (by decide)
   have D5 : (d'.setIfInBounds 7 true).getD 5 false = d'.getD 5 false := getD_set_ne false (by decide)
   have D6 : (d'.setIfInBounds 7 true).getD 6 false = d'.getD 6 false := getD_set_ne false (by decide)
   obtain ⟨z5_0, e15, q5_0⟩ := I.o5 (hall ⟨5, .data⟩ (by simp) rfl)
   refine wpOp_step rfl (fun K hK => ?_)
   simp only [frYo, e4, e5, e15]
   go_simp
   have U2 : updB us 3 (.string ⟨z5_0.toArray⟩) 2 = us 2 := updB_other (by decide)
   have U3 : updB us 3 (.string ⟨z5_0.toArray⟩) 3 = (.string ⟨z5_0.toArray⟩) := updB_same _ _ _
   have U4 : updB us 3 (.string ⟨z5_0.toArray⟩) 4 = us 4 := updB_other (by decide)
   have U5 : updB us 3 (.string ⟨z5_0.toArray⟩) 5 = us 5 := updB_other (by decide)
   have U10 : updB us 3 (.string ⟨z5_0.toArray⟩) 10 = us 10 := updB_other (by decide)
   have U11 : updB us 3 (.string ⟨z5_0.toArray⟩) 11 = us 11 := updB_other (by decide)
   have U12 : updB us 3 (.string ⟨z5_0.toArray⟩) 12 = us 12 := updB_other (by decide)
   have U13 : updB us 3 (.string ⟨z5_0.toArray⟩) 13 = us 13 := updB_other (by decide)
   have U14 : updB us 3 (.string ⟨z5_0.toArray⟩) 14 = us 14 := updB_other (by decide)
   have U15 : updB us 3 (.string ⟨z5_0.toArray⟩) 15 = us 15 := updB_other (by decide)
   refine hK _ _ ⟨updB us 3 (.string ⟨z5_0.toArray⟩), by simp [frYo, updB, Act.put, e4, e5, e15], { u4 := (U4.trans I.u4), u5 := (U5.trans I.u5), src := hs, gro := hgr, o0 := (fun h => by rw [U10]; exact I.o0 (D0.symm.trans h)), o1 := (fun h => by rw [U11]; obtain ⟨B2, g1, g2, g3⟩ := I.o1 (D1.symm.trans h); exact ⟨B2, g1, g2, g3⟩), o2 := (fun h => by rw [U12]; exact I.o2 (D2.symm.trans h)), o3 := (fun h => by rw [U13]; exact I.o3 (D3.symm.trans h)), o4 := (fun h => by rw [U14]; obtain ⟨B2, y2, g1, g2, g3, g4⟩ := I.o4 (D4.symm.trans h); exact ⟨B2, y2, g1, g2, g3, g4⟩), o5 := (fun h => by rw [U15]; exact I.o5 (D5.symm.trans h)), o6 := (fun h => by rw [U2]; exact I.o6 (D6.symm.trans h)), o7 := (fun _ => ⟨z5_0, U3, q5_0⟩) }⟩
 ·
  intro d' a' W hd hall hI
  obtain ⟨us, rfl, I⟩ := hI
  have D : ∀ k, k < 8 -> d'.getD k false = true := fun k hk => by
   have := hall k hk
   have hk2 : k < d'.size := by rw [hd]; exact hk
   simp [hk2] at this ⊢; exact this
  have hsR := I.src
  have hgR := I.gro
  have O0 := I.o0 (D 0 (by decide))
  have O1 := I.o1 (D 1 (by decide))
  have O2 := I.o2 (D 2 (by decide))
  have O3 := I.o3 (D 3 (by decide))
  have O4 := I.o4 (D 4 (by decide))
  have O5 := I.o5 (D 5 (by decide))
  have O6 := I.o6 (D 6 (by decide))
  have O7 := I.o7 (D 7 (by decide))
  have e4 := I.u4
  have e5 := I.u5
  clear I D hall hd
  obtain ⟨s, e3, hsl⟩ := O7
  simp only [frYo, O6, e3]
  go_wp2_with fail
  go_ret2
  exact ⟨B, dd, hs, es, s, rfl, hsl, hl8.out, (D2.out.src hgR hg).mono hB1.out.size, src_below hB1.out (G2.out.trans hgR) (by rw [<- hbase.out]; exact hb0.out)⟩
set_option maxRecDepth 100000 in
set_option maxHeartbeats 4000000 in
theorem drawAEd (A : Option Addr) (c : Nat) (bs : List Int) (w : World) (h : Code0 w A bs) :
  Calls Tryz.prog 15 #[.slice A bs.length c] w (fun e w' => ∃ B d hs es y B2 d2 ps, e = .returned (.tuple #[.slice B (List.length es) d, .agg #[.int .i64 y, .slice B2 (List.length ps) d2]]) /\ es.length <= 8 /\ (-1 <= y /\ y <= 5001) /\ ps.length <= 30 /\ (∀ p ∈ ps, p.sz <= 100) /\ DrE w' w.heap.size B es.length d hs es /\ ClsO w' w.heap.size B2 ps.length d2 ps /\ Below w.heap.size w w') := by
 have R0 := heap_alloc_new w (.cells #[.int .i64 0, .slice none 0 0] 42)
 have B0 := below_alloc w (.cells #[.int .i64 0, .slice none 0 0] 42)
 have H0 := h.below B0
 clear h
 go_enter Tryz.func15, Tryz.ntmps15
 go_wp2_with fail
 refine (code_from A c bs _ H0).mono ?_
 rintro e w1 ⟨g, rfl, s1, b1⟩
 have hg := s1.lt
 have hRg : w.heap.size < g := by have := s1.1; simp only [World.size_alloc] at this; omega
 have H1 := H0.below b1
 have R1 := (b1.block _ (by simp)).trans R0
 have B1 := B0.trans (b1.mono (by simp))
 clear R0 B0 H0 b1
 go_wp2_with fail
 refine (drawEF A c bs _ H1).mono ?_
 rintro e w2 ⟨B, d, hs, es, y, rfl, hl8, hy, d2, b2⟩
 have s2 := s1.keep (b2.mono hg)
 have R2 := (b2.block _ (by omega)).trans R1
 have B2 := B1.trans (b2.mono B1.size)
 have hg2 : g < w2.heap.size := Nat.lt_of_lt_of_le hg b2.size
 have hsz1 := B1.size
 clear s1 H1 R1 B1
 go_wp2_with fail
 refine (draw_c g _ A c bs _ s2).mono ?_
 rintro e w3 ⟨C, q, ps, rfl, hp30, o3, ht3, s3, g3⟩
 have d3 := (d2.src g3 hg).putb (R := w.heap.size) (j := 0) (v := .int .i64 y) (by omega)
 have d4 := (d3.putb (R := w.heap.size) (j := 1) (v := .slice C ps.length q) (by omega)).mono hsz1
 have R3 := keepG g3 R2 (by omega)
 have hsz2 := B2.size
 have o4 : ClsO ((w3.setCell ⟨w.heap.size, 0, none⟩ (.int .i64 y)).setCell ⟨w.heap.size, 1, none⟩ (.slice C ps.length q)) w.heap.size C ps.length q ps :=
  ClsO.mono (ownsRow_setCell_below (ownsRow_setCell_below o3 (a := ⟨w.heap.size, 0, none⟩) (by have := b2.size; show w.heap.size < _; omega) _) (a := ⟨w.heap.size, 1, none⟩) (by have := b2.size; show w.heap.size < _; omega) _) hsz2
 have hb3 : Below w.heap.size w w3 := src_below B2 g3 (by omega)
 have c0 : w3.cell? ⟨w.heap.size, 0, none⟩ = some (.int .i64 0) := by rw [cell_of_row _ _ _ _ _ _ R3]; rfl
 have c1 : w3.cell? ⟨w.heap.size, 1, none⟩ = some (.slice none 0 0) := by rw [cell_of_row _ _ _ _ _ _ R3]; rfl
 have f0 := frozen_of_row w3 w.heap.size 0 _ _ R3
 have f1 := frozen_of_row w3 w.heap.size 1 _ _ R3
 have R4 : (w3.setCell ⟨w.heap.size, 0, none⟩ (.int .i64 y)).heap[w.heap.size]? = some (.cells #[.int .i64 y, .slice none 0 0] 42 (0, 0)) := by rw [heap_setCell_same _ _ _ _ _ _ R3]; rfl
 have R5 : ((w3.setCell ⟨w.heap.size, 0, none⟩ (.int .i64 y)).setCell ⟨w.heap.size, 1, none⟩ (.slice C ps.length q)).heap[w.heap.size]? = some (.cells #[.int .i64 y, .slice C ps.length q] 42 (0, 0)) := by rw [heap_setCell_same _ _ _ _ _ _ R4]; rfl
 have b5 : Below w.heap.size w ((w3.setCell ⟨w.heap.size, 0, none⟩ (.int .i64 y)).setCell ⟨w.heap.size, 1, none⟩ (.slice C ps.length q)) := (hb3.setCell (p := ⟨w.heap.size, 0, none⟩) (Nat.le_refl _) _).setCell (p := ⟨w.heap.size, 1, none⟩) (Nat.le_refl _) _
 have HD := Lib.hid d4; have HO := Lib.hid o4; have HB := Lib.hid b5; have HR := Lib.hid R5
 clear d2 d3 d4 o3 o4 R2 R3 R4 R5 B2 b5 hb3 s2 s3 g3 b2
 go_wp2_with fail
 refine bodyPost_ret (v := .tuple #[.slice B es.length d, .agg #[.int .i64 y, .slice C ps.length q]]) ?_ ?_ ?_
 ·
  exact results_tmp_cell_rowD (p := 3) (u := 2) rfl _ _ w.heap.size 42 _ (0, 0) _ rfl HR.out Tryz.underlying42 rfl ednSz
 ·
  rfl
 ·
  exact ⟨B, d, hs, es, y, C, q, ps, rfl, hl8, hy, hp30, ht3, HD.out, HO.out, HB.out⟩
end Go.Proofs.YtjcklmhgjdmjoaaGreat

namespace Go.Proofs.YtjcklmhgjdmjoaaGreat
open Go.ChangeShapes Go.WideShapes Go.ChangeAt Go.RowKit
set_option linter.unusedVariables false
theorem clsSzM : (Tryz.prog.info? 47).map (·.size) = some 7 := by kernel_rfl
theorem results_tmp2_cell_rowD {P : Program} {fn : Func} {p u v : Tmp} {ty : TypeId} (h : fn.results = #[.tmp u, .tmp v, .cell p ty]) (tmps : Array Value) (w : World) (g : Nat) (t : TypeId) (cs : Array Value) (fr : Nat × Nat) (d : TypeDesc)
  (hp : tmps.getD p undef = .pointer (some ⟨g, 0, none⟩)) (hg : w.heap[g]? = some (.cells cs t fr))
  (hu : P.underlying ty = some d) (hd : (match d with | .struct _ | .array _ _ => true | _ => false) = true) (hi : (P.info? ty).map (·.size) = some cs.size) :
  (results fn tmps).run P w = .ok (.tuple #[tmps.getD u undef, tmps.getD v undef, .agg cs]) w := by
 have hp' : tmps[p]?.getD undef = .pointer (some ⟨g, 0, none⟩) := by simpa using hp
 simp [results, h, hp', asAddr, run_loadVar_row w g t ty cs fr d hg hu hd hi, Sem.run_bind, Result.andThen]
set_option maxRecDepth 100000 in
set_option maxHeartbeats 4000000 in
theorem drawMEd (A : Option Addr) (c : Nat) (bs : List Int) (w : World) (h : Code0 w A bs) :
  Calls Tryz.prog 18 #[.slice A bs.length c] w (fun e w' => ∃ B d hs es y x, e = .returned (.tuple #[.slice B (List.length es) d, .int .i64 y, .agg #[.string ⟨(x : Cls).c.toArray⟩, .int .i64 x.k, .int .i64 x.p, .int .i64 x.v, .int .i64 x.r, .int .i64 x.e, .string ⟨x.t.toArray⟩]]) /\ es.length <= 8 /\ (-1 <= y /\ y <= 5001) /\ Dcl x /\ DrE w' w.heap.size B es.length d hs es /\ Below w.heap.size w w') := by
 have R0 := heap_alloc_new w (.cells #[.string ⟨#[]⟩, .int .i64 0, .int .i64 0, .int .i64 0, .int .i64 0, .int .i64 0, .string ⟨#[]⟩] 47)
 have B0 := below_alloc w (.cells #[.string ⟨#[]⟩, .int .i64 0, .int .i64 0, .int .i64 0, .int .i64 0, .int .i64 0, .string ⟨#[]⟩] 47)
 have H0 := h.below B0
 clear h
 go_enter Tryz.func18, Tryz.ntmps18
 go_wp2_with fail
 refine (code_from A c bs _ H0).mono ?_
 rintro e w1 ⟨g, rfl, s1, b1⟩
 have hg := s1.lt
 have hRg : w.heap.size < g := by have := s1.1; simp only [World.size_alloc] at this; omega
 have H1 := H0.below b1
 have R1 := (b1.block _ (by simp)).trans R0
 have B1 := B0.trans (b1.mono (by simp))
 clear R0 B0 H0 b1
 go_wp2_with fail
 refine (drawEF A c bs _ H1).mono ?_
 rintro e w2 ⟨B, d, hs, es, y, rfl, hl8, hy, d2, b2⟩
 have s2 := s1.keep (b2.mono hg)
 have R2 := (b2.block _ (by omega)).trans R1
 have B2 := B1.trans (b2.mono B1.size)
 have hg2 : g < w2.heap.size := Nat.lt_of_lt_of_le hg b2.size
 have hsz1 := B1.size
 have hR2 : w.heap.size < w1.heap.size := by omega
 clear s1 H1 R1 B1
 go_wp2_with fail
 refine (clause_any g _ A c bs _ s2).mono ?_
 rintro e w3 ⟨x, rfl, hx, s3, g3⟩
 have d3 := d2.src g3 hg
 have R3 := keepG g3 R2 (by omega)
 have hb3 : Below w.heap.size w w3 := src_below B2 g3 (by omega)
 obtain ⟨c0, c1, c2, c3, c4, c5, c6, f0, f1, f2, f3, f4, f5, f6⟩ := cel7 R3
 obtain ⟨W5, hW5, R5, bl5⟩ := done7 R3 (.string ⟨x.c.toArray⟩) (.int .i64 x.k) (.int .i64 x.p) (.int .i64 x.v) (.int .i64 x.r) (.int .i64 x.e) (.string ⟨x.t.toArray⟩)
 have d4 := ((DrE.putb (R := w.heap.size) (j := 6) (v := .string ⟨x.t.toArray⟩) (DrE.putb (R := w.heap.size) (j := 5) (v := .int .i64 x.e) (DrE.putb (R := w.heap.size) (j := 4) (v := .int .i64 x.r) (DrE.putb (R := w.heap.size) (j := 3) (v := .int .i64 x.v) (DrE.putb (R := w.heap.size) (j := 2) (v := .int .i64 x.p) (DrE.putb (R := w.heap.size) (j := 1) (v := .int .i64 x.k) (DrE.putb (R := w.heap.size) (j := 0) (v := .string ⟨x.c.toArray⟩) d3 hR2) hR2) hR2) hR2) hR2) hR2) hR2)).mono hsz1
 rw [hW5] at d4
 have b5 : Below w.heap.size w W5 := bl5 _ _ (Nat.le_refl _) hb3
 have HD := Lib.hid d4; have HB := Lib.hid b5; have HR := Lib.hid R5
 clear d2 d3 d4 R2 R3 R5 B2 b5 hb3 s2 s3 g3 b2 bl5
 go_wp2_with fail
 try rw [hW5]
 refine bodyPost_ret (v := .tuple #[.slice B es.length d, .int .i64 y, .agg #[.string ⟨(x : Cls).c.toArray⟩, .int .i64 x.k, .int .i64 x.p, .int .i64 x.v, .int .i64 x.r, .int .i64 x.e, .string ⟨x.t.toArray⟩]]) ?_ ?_ ?_
 ·
  exact results_tmp2_cell_rowD (p := 4) (u := 2) (v := 3) rfl _ _ w.heap.size 47 _ (0, 0) _ rfl HR.out Tryz.underlying47 rfl clsSzM
 ·
  rfl
 ·
  exact ⟨B, d, hs, es, y, x, rfl, hl8, hy, hx, HD.out, HB.out⟩
end Go.Proofs.YtjcklmhgjdmjoaaGreat

