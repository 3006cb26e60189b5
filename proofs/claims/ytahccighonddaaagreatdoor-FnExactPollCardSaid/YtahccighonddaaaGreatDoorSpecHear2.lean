import Derived.Test.YtahccighonddaaaGreatDoorFabEnds
import Derived.Test.YtahccighonddaaaGreatDoorLawRingAsk
import Derived.Test.YtahccighonddaaaGreatDoorLawTxn1
import Derived.Test.YtahccighonddaaaGreatDoorLawRing5
import Derived.Test.YtahccighonddaaaGreatDoorSpecMove
import Derived.Deep.RegionHeld3
import Derived.Deep.DrawnRows
namespace Go.Proofs.YtahccighonddaaaGreatDoor
open Go.RowKit
def RD.small (r : RD) : Prop := r.rl ≤ 1048576 ∧ r.cl ≤ 1048576 ∧ ∀ s ∈ r.recs,s.size ≤ 1048576
def TD.small (t : TD) : Prop := t.rl ≤ 1048576 ∧ t.ll ≤ 1048576
abbrev RD.lin (r : RD) (w : World) : Prop := LIn w r.ra r.rl r.ca r.cl r.recs r.curs
structure LT (w : World) (t : TD) : Prop where
  l : LTIn w t.ra t.rl t.la t.ll t.rs t.ls
  pw : -9223372036854775808 ≤ t.p ∧ t.p ≤ 9223372036854775807
abbrev TD.lin (t : TD) (w : World) : Prop := LT w t
theorem LIn.below {w w' : World} {ra : Option Addr} {rl : Nat} {ca : Option Addr} {cl : Nat} {recs : List ByteArray} {curs : List (Int × Int)} (h : LIn w ra rl ca cl recs curs) (hb : Below w.heap.size w w') : LIn w' ra rl ca cl recs curs := ⟨strs_below h.strs hb,curs_below h.curs hb,h.sz,h.rle,h.cle⟩
theorem keeps_lin : Keeps (fun w (r : RD) => r.lin w) := fun _ _ _ hb h => h.below hb
theorem keeps_tlin : Keeps (fun w (t : TD) => t.lin w) := fun _ _ _ hb h => ⟨h.l.below hb,h.pw⟩
abbrev LRngs (w : World) (a : Option Addr) (len : Nat) (l : List RD) : Prop := RngsG (fun w r => r.lin w) w a len l
abbrev LTxs (w : World) (a : Option Addr) (len : Nat) (l : List TD) : Prop := TxsG (fun w t => t.lin w) w a len l
structure LFIn (w : World) (ra : Option Addr) (rl : Nat) (ea : Option Addr) (el : Nat) (ta : Option Addr) (tl : Nat) (rs : List RD) (es : List Int) (ts : List TD) : Prop where
  rs : LRngs w ra rl rs
  es : Nums w ea el es
  ts : LTxs w ta tl ts
  rle : rl ≤ maxLen
  ele : el ≤ maxLen
  tle : tl ≤ maxLen
theorem LFIn.below {w w' : World} {ra : Option Addr} {rl : Nat} {ea : Option Addr} {el : Nat} {ta : Option Addr} {tl : Nat} {rs : List RD} {es : List Int} {ts : List TD} (h : LFIn w ra rl ea el ta tl rs es ts) (hb : Below w.heap.size w w') : LFIn w' ra rl ea el ta tl rs es ts :=
  ⟨rngsG_below keeps_lin h.rs hb,nums_below h.es hb,txsG_below keeps_tlin h.ts hb,h.rle,h.ele,h.tle⟩
def FSmall (rl el tl : Nat) (rs : List RD) (ts : List TD) : Prop := rl ≤ 1048576 ∧ el ≤ 1048576 ∧ tl ≤ 1048576 ∧ (∀ r ∈ rs,r.small) ∧ ∀ t ∈ ts,t.small
end Go.Proofs.YtahccighonddaaaGreatDoor
namespace Go.Proofs.YtahccighonddaaaGreatDoor
open Go.RowKit
def RD.strip (r : RD) : RD := ⟨r.cap,r.first,none,0,0,none,0,0,r.recs,r.curs⟩
def TD.strip (t : TD) : TD := ⟨t.p,t.e,t.s,t.u,none,0,0,none,0,0,t.rs,t.ls⟩
def RD.cells (r : RD) : List Value := [.int .i64 r.cap,.int .i64 r.first,.slice r.ra r.rl r.rc,.slice r.ca r.cl r.cc]
def TD.cells (t : TD) : List Value := [.int .i64 t.p,.int .i64 t.e,.int .i64 t.s,.int .i64 t.u,.slice t.ra t.rl t.rc,.slice t.la t.ll t.lc]
def rdCells (l : List RD) : List Value := l.flatMap RD.cells
def tdCells (l : List TD) : List Value := l.flatMap TD.cells
theorem pack_length {α : Type} (f : α → List Value) (s : Nat) (hf : ∀ x,(f x).length = s) (l : List α) : (l.flatMap f).length = l.length * s := by
  induction l with
  | nil => simp
  | cons x r ih => simp [hf,ih,Nat.add_mul]; omega
theorem pack_at {α : Type} (f : α → List Value) (s : Nat) (hf : ∀ x,(f x).length = s) (l : List α) (i j : Nat) (hi : i < l.length) (hj : j < s) : (l.flatMap f)[i * s + j]? = (f l[i])[j]? := by
  induction l generalizing i with
  | nil => simp at hi
  | cons x r ih =>
    rw [List.flatMap_cons]
    cases i with
    | zero => rw [Nat.zero_mul,Nat.zero_add,List.getElem?_append_left (by rw [hf]; exact hj)]; rfl
    | succ i =>
      have hi' : i < r.length := by simp at hi; omega
      rw [List.getElem?_append_right (by rw [hf,Nat.add_mul]; omega),hf]
      have : (i + 1) * s + j - s = i * s + j := by rw [Nat.add_mul]; omega
      rw [this,ih i hi']
      rfl
theorem rdCells_length (l : List RD) : (rdCells l).length = l.length * 4 := pack_length _ 4 (fun _ => rfl) l
theorem tdCells_length (l : List TD) : (tdCells l).length = l.length * 6 := pack_length _ 6 (fun _ => rfl) l
theorem rdCells_at (l : List RD) (i j : Nat) (hi : i < l.length) (hj : j < 4) : (rdCells l)[i * 4 + j]? = (l[i].cells)[j]? := pack_at _ 4 (fun _ => rfl) l i j hi hj
theorem tdCells_at (l : List TD) (i j : Nat) (hi : i < l.length) (hj : j < 6) : (tdCells l)[i * 6 + j]? = (l[i].cells)[j]? := pack_at _ 6 (fun _ => rfl) l i j hi hj
theorem drop_four (zs : List Value) (o : Nat) (h : o + 4 ≤ zs.length) : ∃ a b c d,zs.drop o = a :: b :: c :: d :: zs.drop (o + 4) := by
  refine ⟨zs[o],zs[o + 1],zs[o + 2],zs[o + 3],?_⟩
  rw [List.drop_eq_getElem_cons (by omega),List.drop_eq_getElem_cons (by omega),List.drop_eq_getElem_cons (by omega),List.drop_eq_getElem_cons (by omega)]
theorem app_set4 (xs zs : List Value) (k : Nat) (hx : xs.length = k * 4) (hz : k * 4 + 4 ≤ zs.length) (v0 v1 v2 v3 : Value) :
    ((((xs ++ zs.drop (k * 4)).set (k * 4) v0).set (k * 4 + 1) v1).set (k * 4 + 2) v2).set (k * 4 + 3) v3 = xs ++ [v0,v1,v2,v3] ++ zs.drop ((k + 1) * 4) := by
  obtain ⟨a,b,c,d,e⟩ := drop_four zs (k * 4) hz
  rw [e,← hx]
  rw [show (k + 1) * 4 = xs.length + 4 by omega]
  simp
theorem app_set6 (xs zs : List Value) (k : Nat) (hx : xs.length = k * 6) (hz : k * 6 + 6 ≤ zs.length) (v0 v1 v2 v3 v4 v5 : Value) :
    ((((((xs ++ zs.drop (k * 6)).set (k * 6) v0).set (k * 6 + 1) v1).set (k * 6 + 2) v2).set (k * 6 + 3) v3).set (k * 6 + 4) v4).set (k * 6 + 5) v5 = xs ++ [v0,v1,v2,v3,v4,v5] ++ zs.drop ((k + 1) * 6) := by
  obtain ⟨a,b,c,d,e⟩ := drop_four zs (k * 6) (by omega)
  obtain ⟨f,g,e2⟩ : ∃ f g,zs.drop (k * 6 + 4) = f :: g :: zs.drop (k * 6 + 6) := ⟨zs[k * 6 + 4],zs[k * 6 + 5],by
    rw [List.drop_eq_getElem_cons (by omega),List.drop_eq_getElem_cons (by omega)]⟩
  rw [e,e2,← hx]
  rw [show (k + 1) * 6 = xs.length + 6 by omega]
  simp
theorem rngs_own {Q : World → RD → Prop} {w : World} {base e n c : Nat} {a : Option Addr} {l : List RD} (h : w.ownsRow base e 4 (.slice a n c) n (rdCells l)) (hQ : ∀ r ∈ l,Q w r) : RngsG Q w a n l := by
  have hl : l.length = n := by have := h.1; rw [rdCells_length] at this; omega
  refine ⟨hl,fun i hi => ?_⟩
  obtain ⟨g,rfl⟩ := own_nform h (by omega)
  have hat := fun j (hj : j < 4) => rdCells_at l i j hi hj
  have hc := fun j (hj : j < 4) => (h.cellAt (i * 4 + j) (by omega)).trans (hat j hj)
  refine ⟨g,0,rfl,?_,?_,?_,?_,hQ _ (List.getElem_mem hi)⟩
  · rw [Nat.zero_add]; exact hc 0 (by omega)
  · rw [Nat.zero_add]; exact hc 1 (by omega)
  · rw [Nat.zero_add]; exact hc 2 (by omega)
  · rw [Nat.zero_add]; exact hc 3 (by omega)
theorem txs_own {Q : World → TD → Prop} {w : World} {base e n c : Nat} {a : Option Addr} {l : List TD} (h : w.ownsRow base e 6 (.slice a n c) n (tdCells l)) (hQ : ∀ r ∈ l,Q w r) : TxsG Q w a n l := by
  have hl : l.length = n := by have := h.1; rw [tdCells_length] at this; omega
  refine ⟨hl,fun i hi => ?_⟩
  obtain ⟨g,rfl⟩ := own_nform h (by omega)
  have hat := fun j (hj : j < 6) => tdCells_at l i j hi hj
  have hc := fun j (hj : j < 6) => (h.cellAt (i * 6 + j) (by omega)).trans (hat j hj)
  refine ⟨g,0,rfl,?_,?_,?_,?_,?_,?_,hQ _ (List.getElem_mem hi)⟩
  · rw [Nat.zero_add]; exact hc 0 (by omega)
  · rw [Nat.zero_add]; exact hc 1 (by omega)
  · rw [Nat.zero_add]; exact hc 2 (by omega)
  · rw [Nat.zero_add]; exact hc 3 (by omega)
  · rw [Nat.zero_add]; exact hc 4 (by omega)
  · rw [Nat.zero_add]; exact hc 5 (by omega)
theorem own_fit2 {w : World} {base : Nat} {a : Option Addr} {n q : Nat} {b : Option Addr} {m p : Nat} {rs : List ByteArray} {cs : List (Int × Int)} (h : OwnRing w base a n q b m p (rs.map Value.string) (curCells cs)) (hs : ∀ s ∈ rs,s.size ≤ 1048576) (hn : n ≤ 1048576) (hm : m ≤ 1048576) (hq : q ≤ maxLen) (hp : p ≤ maxLen) : RFit w a n q b m p rs cs := by
  obtain ⟨a1,q1,e1,h1⟩ := own_strIn h.1
  obtain ⟨a2,q2,e2,h2⟩ := own_curIn h.2
  simp only [Value.slice.injEq] at e1 e2
  obtain ⟨rfl,_,rfl⟩ := e1
  obtain ⟨rfl,_,rfl⟩ := e2
  exact ⟨h1,h2,hs,hn,hm,hq,hp⟩
def RD.off (b : Nat) (r : RD) : Prop := Off b r.ra ∧ Off b r.ca
def TD.off (b : Nat) (t : TD) : Prop := Off b t.ra ∧ Off b t.la
def RD.above (b : Nat) (r : RD) : Prop := (∀ x,r.ra = some x → b < x.block) ∧ ∀ x,r.ca = some x → b < x.block
def TD.above (b : Nat) (t : TD) : Prop := (∀ x,t.ra = some x → b < x.block) ∧ ∀ x,t.la = some x → b < x.block
theorem RD.above.off {b c : Nat} {r : RD} (h : r.above b) (hc : c ≤ b) : r.off c := ⟨fun x e he => by have := h.1 x e; omega,fun x e he => by have := h.2 x e; omega⟩
theorem TD.above.off {b c : Nat} {r : TD} (h : r.above b) (hc : c ≤ b) : r.off c := ⟨fun x e he => by have := h.1 x e; omega,fun x e he => by have := h.2 x e; omega⟩
theorem RFit.grown {w w' : World} {b : Nat} {ra : Option Addr} {rl rc : Nat} {ca : Option Addr} {cl cc : Nat} {recs : List ByteArray} {curs : List (Int × Int)} (h : RFit w ra rl rc ca cl cc recs curs) (hg : w.grownBy w' (some b)) (h1 : Off b ra) (h2 : Off b ca) : RFit w' ra rl rc ca cl cc recs curs :=
  ⟨⟨strs_grown h.str.strs hg h1,fun x e => Nat.lt_of_lt_of_le (h.str.lt x e) hg.size,h.str.nil,h.str.cap,h.str.off⟩,
   ⟨curs_grown h.cur.curs hg h2,fun x e => Nat.lt_of_lt_of_le (h.cur.lt x e) hg.size,h.cur.nil,h.cur.cap,h.cur.off⟩,h.sz,h.rle,h.cle,h.rcm,h.ccm⟩
abbrev set4 (w : World) (b o : Nat) (v0 v1 v2 v3 : Value) : World := (((w.setCell ⟨b,o,none⟩ v0).setCell ⟨b,o + 1,none⟩ v1).setCell ⟨b,o + 2,none⟩ v2).setCell ⟨b,o + 3,none⟩ v3
abbrev setB6 (w : World) (b o : Nat) (v0 v1 v2 v3 v4 v5 : Value) : World := (((((w.setCell ⟨b,o,none⟩ v0).setCell ⟨b,o + 1,none⟩ v1).setCell ⟨b,o + 2,none⟩ v2).setCell ⟨b,o + 3,none⟩ v3).setCell ⟨b,o + 4,none⟩ v4).setCell ⟨b,o + 5,none⟩ v5
theorem grown_set4 (w : World) (b o : Nat) (v0 v1 v2 v3 : Value) : w.grownBy (set4 w b o v0 v1 v2 v3) (some b) :=
  (((grown_setc w b o v0).trans (grown_setc _ b _ v1)).trans (grown_setc _ b _ v2)).trans (grown_setc _ b _ v3)
theorem grown_setB6 (w : World) (b o : Nat) (v0 v1 v2 v3 v4 v5 : Value) : w.grownBy (setB6 w b o v0 v1 v2 v3 v4 v5) (some b) :=
  (((((grown_setc w b o v0).trans (grown_setc _ b _ v1)).trans (grown_setc _ b _ v2)).trans (grown_setc _ b _ v3)).trans (grown_setc _ b _ v4)).trans (grown_setc _ b _ v5)
theorem own_set4 {w : World} {base e n c B : Nat} {xs : List Value} (h : w.ownsRow base e 4 (.slice (some ⟨B,0,none⟩) n c) n xs) (k : Nat) (v0 v1 v2 v3 : Value) :
    (set4 w B (k * 4) v0 v1 v2 v3).ownsRow base e 4 (.slice (some ⟨B,0,none⟩) n c) n ((((xs.set (k * 4) v0).set (k * 4 + 1) v1).set (k * 4 + 2) v2).set (k * 4 + 3) v3) :=
  ((((h.stored (k * 4) v0).1.stored (k * 4 + 1) v1).1.stored (k * 4 + 2) v2).1.stored (k * 4 + 3) v3).1
theorem own_setB6 {w : World} {base e n c B : Nat} {xs : List Value} (h : w.ownsRow base e 6 (.slice (some ⟨B,0,none⟩) n c) n xs) (k : Nat) (v0 v1 v2 v3 v4 v5 : Value) :
    (setB6 w B (k * 6) v0 v1 v2 v3 v4 v5).ownsRow base e 6 (.slice (some ⟨B,0,none⟩) n c) n ((((((xs.set (k * 6) v0).set (k * 6 + 1) v1).set (k * 6 + 2) v2).set (k * 6 + 3) v3).set (k * 6 + 4) v4).set (k * 6 + 5) v5) :=
  ((((((h.stored (k * 6) v0).1.stored (k * 6 + 1) v1).1.stored (k * 6 + 2) v2).1.stored (k * 6 + 3) v3).1.stored (k * 6 + 4) v4).1.stored (k * 6 + 5) v5).1
end Go.Proofs.YtahccighonddaaaGreatDoor
namespace Go.Proofs.YtahccighonddaaaGreatDoor
open Go.RowKit
theorem info_ringF : (Tryz.prog.info? 63).map (fun i => (i.zero,i.size,i.bytes)) = some (some (.agg #[.int .i64 0,.int .i64 0,.slice none 0 0,.slice none 0 0]),4,64) := by kernel_rfl
theorem info_txnF : (Tryz.prog.info? 59).map (fun i => (i.zero,i.size,i.bytes)) = some (some (.agg #[.int .i64 0,.int .i64 0,.int .i64 0,.int .i64 0,.slice none 0 0,.slice none 0 0]),6,80) := by kernel_rfl
structure RWr (w wr : World) (n : Nat) (zs : List Value) (l m : List RD) (k : Nat) : Prop where
  own : wr.ownsRow w.heap.size 63 4 (.slice (some ⟨w.heap.size,0,none⟩) n n) n (rdCells m ++ zs.drop (k * 4))
  len : m.length = k
  fit : ∀ r ∈ m,r.fit wr ∧ r.above w.heap.size
  same : m.map RD.strip = (l.take k).map RD.strip
  bel : Below w.heap.size w wr
theorem RWr.step {w wr w2 : World} {n : Nat} {zs : List Value} {l m : List RD} {k : Nat} (h : RWr w wr n zs l m k) (hz : zs.length = n * 4) (hk : k < n) {r r' : RD} (hl : l[k]? = some r) (hs : r'.strip = r.strip) (hb : Below wr.heap.size wr w2) (hf : r'.fit w2) (ho : r'.above w.heap.size) :
    RWr w (set4 w2 w.heap.size (k * 4) (.int .i64 r'.cap) (.int .i64 r'.first) (.slice r'.ra r'.rl r'.rc) (.slice r'.ca r'.cl r'.cc)) n zs l (m ++ [r']) (k + 1) := by
  have hg := grown_set4 w2 w.heap.size (k * 4) (.int .i64 r'.cap) (.int .i64 r'.first) (.slice r'.ra r'.rl r'.rc) (.slice r'.ca r'.cl r'.cc)
  have h2 : w2.ownsRow w.heap.size 63 4 (.slice (some ⟨w.heap.size,0,none⟩) n n) n (rdCells m ++ zs.drop (k * 4)) := h.own.kept (below_grown hb) (.inr (by simp [Value.ownBlock]))
  refine ⟨?_,by simp [h.len],fun x hx => ?_,?_,?_⟩
  · have h3 := own_set4 h2 k (.int .i64 r'.cap) (.int .i64 r'.first) (.slice r'.ra r'.rl r'.rc) (.slice r'.ca r'.cl r'.cc)
    rw [app_set4 _ _ _ (by rw [rdCells_length,h.len]) (by omega)] at h3
    rw [show rdCells (m ++ [r']) = rdCells m ++ [.int .i64 r'.cap,.int .i64 r'.first,.slice r'.ra r'.rl r'.rc,.slice r'.ca r'.cl r'.cc] by simp [rdCells,RD.cells]]
    exact h3
  · rcases List.mem_append.1 hx with hx | hx
    · obtain ⟨h4,h5⟩ := h.fit x hx
      exact ⟨(h4.below hb).grown hg (h5.off (Nat.le_refl _)).1 (h5.off (Nat.le_refl _)).2,h5⟩
    · rw [List.mem_singleton.1 hx]
      exact ⟨hf.grown hg (ho.off (Nat.le_refl _)).1 (ho.off (Nat.le_refl _)).2,ho⟩
  · obtain ⟨hj,e⟩ := List.getElem?_eq_some_iff.1 hl
    rw [List.take_succ_eq_append_getElem hj,List.map_append,List.map_append,h.same,e]
    simp [hs]
  · exact (below_tr h.bel hb).grown hg (below_tr h.bel hb).size (fun j e => by cases e; exact Nat.le_refl _)
structure TWr (w wr : World) (n : Nat) (zs : List Value) (l m : List TD) (k : Nat) : Prop where
  own : wr.ownsRow w.heap.size 59 6 (.slice (some ⟨w.heap.size,0,none⟩) n n) n (tdCells m ++ zs.drop (k * 6))
  len : m.length = k
  fit : ∀ r ∈ m,TFit wr r ∧ r.above w.heap.size
  same : m.map TD.strip = (l.take k).map TD.strip
  bel : Below w.heap.size w wr
theorem nums_grown {w w' : World} {a : Option Addr} {n b : Nat} {l : List Int} (h : Nums w a n l) (hg : w.grownBy w' (some b)) (ho : Off b a) : Nums w' a n l :=
  ⟨h.1,fun i hi => by
    obtain ⟨c,off,e,hc⟩ := h.2 i hi
    exact ⟨c,off,e,(grown_cell hg (World.block_lt_of_cell? w ⟨c,off + i,none⟩ hc) (by have := ho _ e; simp at this ⊢; exact this) _).trans hc⟩⟩
theorem NumIn.grown {w w' : World} {b : Nat} {a : Option Addr} {n c : Nat} {l : List Int} (h : NumIn w a n c l) (hg : w.grownBy w' (some b)) (ho : Off b a) : NumIn w' a n c l :=
  ⟨nums_grown h.nums hg ho,fun x e => Nat.lt_of_lt_of_le (h.lt x e) hg.size,h.nil,h.cap,h.off⟩
theorem TFit.grown {w w' : World} {b : Nat} {t : TD} (h : TFit w t) (hg : w.grownBy w' (some b)) (ho : t.off b) : TFit w' t := ⟨h.r.grown hg ho.1,h.l.grown hg ho.2,h.rle,h.lle,h.pw,h.rcm,h.lcm⟩
theorem TWr.step {w wr w2 : World} {n : Nat} {zs : List Value} {l m : List TD} {k : Nat} (h : TWr w wr n zs l m k) (hz : zs.length = n * 6) (hk : k < n) {r r' : TD} (hl : l[k]? = some r) (hs : r'.strip = r.strip) (hb : Below wr.heap.size wr w2) (hf : TFit w2 r') (ho : r'.above w.heap.size) :
    TWr w (setB6 w2 w.heap.size (k * 6) (.int .i64 r'.p) (.int .i64 r'.e) (.int .i64 r'.s) (.int .i64 r'.u) (.slice r'.ra r'.rl r'.rc) (.slice r'.la r'.ll r'.lc)) n zs l (m ++ [r']) (k + 1) := by
  have hg := grown_setB6 w2 w.heap.size (k * 6) (.int .i64 r'.p) (.int .i64 r'.e) (.int .i64 r'.s) (.int .i64 r'.u) (.slice r'.ra r'.rl r'.rc) (.slice r'.la r'.ll r'.lc)
  have h2 : w2.ownsRow w.heap.size 59 6 (.slice (some ⟨w.heap.size,0,none⟩) n n) n (tdCells m ++ zs.drop (k * 6)) := h.own.kept (below_grown hb) (.inr (by simp [Value.ownBlock]))
  refine ⟨?_,by simp [h.len],fun x hx => ?_,?_,?_⟩
  · have h3 := own_setB6 h2 k (.int .i64 r'.p) (.int .i64 r'.e) (.int .i64 r'.s) (.int .i64 r'.u) (.slice r'.ra r'.rl r'.rc) (.slice r'.la r'.ll r'.lc)
    rw [app_set6 _ _ _ (by rw [tdCells_length,h.len]) (by omega)] at h3
    rw [show tdCells (m ++ [r']) = tdCells m ++ [.int .i64 r'.p,.int .i64 r'.e,.int .i64 r'.s,.int .i64 r'.u,.slice r'.ra r'.rl r'.rc,.slice r'.la r'.ll r'.lc] by simp [tdCells,TD.cells]]
    exact h3
  · rcases List.mem_append.1 hx with hx | hx
    · obtain ⟨h4,h5⟩ := h.fit x hx
      exact ⟨(h4.below hb).grown hg (h5.off (Nat.le_refl _)),h5⟩
    · rw [List.mem_singleton.1 hx]
      exact ⟨hf.grown hg (ho.off (Nat.le_refl _)),ho⟩
  · obtain ⟨hj,e⟩ := List.getElem?_eq_some_iff.1 hl
    rw [List.take_succ_eq_append_getElem hj,List.map_append,List.map_append,h.same,e]
    simp [hs]
  · exact (below_tr h.bel hb).grown hg (below_tr h.bel hb).size (fun j e => by cases e; exact Nat.le_refl _)
theorem own_capT {w : World} {base e size n m c : Nat} {a : Option Addr} {xs : List Value} (h : w.ownsRow base e size (.slice a n c) m xs) : c ≤ maxLen := by
  rcases h.2 with ⟨e1,_⟩ | ⟨g,cap,cur,e1,_,_,_,hm,_⟩
  · simp only [Value.slice.injEq] at e1
    rw [e1.2.2]
    exact Nat.zero_le _
  · simp only [Value.slice.injEq] at e1
    rw [e1.2.2]
    exact hm
theorem own_tfit {w : World} {base : Nat} {t : TD} (h : OwnTxn w base t.ra t.rl t.rc t.la t.ll t.lc (numCells t.rs) (numCells t.ls)) (hn : t.rl ≤ 1048576) (hm : t.ll ≤ 1048576) (hp : -9223372036854775808 ≤ t.p ∧ t.p ≤ 9223372036854775807) : TFit w t := by
  obtain ⟨a1,q1,e1,h1⟩ := own_numIn h.1
  obtain ⟨a2,q2,e2,h2⟩ := own_numIn h.2.1
  simp only [Value.slice.injEq] at e1 e2
  obtain ⟨e3,_,e4⟩ := e1
  obtain ⟨e5,_,e6⟩ := e2
  rw [← e3,← e4] at h1
  rw [← e5,← e6] at h2
  exact ⟨h1,h2,hn,hm,hp,own_capT h.1,own_capT h.2.1⟩
end Go.Proofs.YtahccighonddaaaGreatDoor
namespace Go.Proofs.YtahccighonddaaaGreatDoor
open Go.RowKit
theorem strip_at {α : Type} {f : α → α} {l m : List α} (h : l.map f = m.map f) {k : Nat} {x y : α} (hx : l[k]? = some x) (hy : m[k]? = some y) : f x = f y := by
  have h1 : (l.map f)[k]? = some (f x) := by rw [List.getElem?_map,hx]; rfl
  have h2 : (m.map f)[k]? = some (f y) := by rw [List.getElem?_map,hy]; rfl
  rw [h,h2] at h1
  exact (Option.some.inj h1).symm
set_option maxHeartbeats 2000000 in
theorem law_eqRingsF (a b : Option Addr) (n ca cb : Nat) (l m : List RD) (w : World) (ha : Rngs w a n l) (hb : Rngs w b n m) (hs : l.map RD.strip = m.map RD.strip) (hn : n ≤ 2097152) :
    Calls Tryz.prog 47 #[.slice a n ca,.slice b n cb] w fun e w' => e = .returned (.bool true) ∧ Below w.heap.size w w' := by
  have HA : Hid (Rngs w a n l) := ha
  have HB : Hid (Rngs w b n m) := hb
  have HS : Hid (l.map RD.strip = m.map RD.strip) := hs
  clear ha hb hs
  go_enter Tryz.func47,Tryz.ntmps47
  go_wp2
  go_loopw [5] (fun i wr => ∃ k : Nat,k ≤ n ∧ i = .int .i64 k ∧ Hid (Below w.heap.size w wr)) (fun i _ => n - (intOf i).toNat)
  case atStart => exact ⟨0,by omega,rfl,Below.refl _ _⟩
  case round =>
    obtain ⟨k,hk,rfl,hw⟩ := hrel
    by_cases hlt : k < n
    · obtain ⟨b1,o1,r,rfl,e1,g0,g1,g2,g3,hf⟩ := rngsG_at keeps_fit HA.out hw.out hlt
      obtain ⟨b2,o2,r',rfl,e2,i0,i1,i2,i3,hf'⟩ := rngsG_at keeps_fit HB.out hw.out hlt
      have hst := strip_at HS.out e1 e2
      clear e1 e2
      obtain ⟨C,F,xa,xl,xc,ya,yl,yc,recs,curs⟩ := r
      obtain ⟨C',F',xa',xl',xc',ya',yl',yc',recs',curs'⟩ := r'
      simp only [RD.strip,RD.mk.injEq] at hst
      obtain ⟨rfl,rfl,_,_,_,_,_,_,rfl,rfl⟩ := hst
      obtain rfl : xl = xl' := hf.out.str.strs.1.symm.trans hf'.out.str.strs.1
      obtain rfl : yl = yl' := hf.out.cur.curs.1.symm.trans hf'.out.cur.curs.1
      have HQ : Hid (∀ w,Below wr.heap.size wr w → Calls Tryz.prog 99 #[ringV C F xa xl xc ya yl yc,ringV C F xa' xl xc' ya' yl yc'] w fun e w' => e = .returned (.bool true) ∧ Below w.heap.size w w') :=
        fun w hb => law_eqRing C F xa xl xc ya yl yc xa' xc' ya' yc' recs curs w (hf.out.below hb).str.strs (hf'.out.below hb).str.strs (hf.out.below hb).cur.curs (hf'.out.below hb).cur.curs (by have := hf.out.rle; simp only at this; omega) (by have := hf.out.cle; simp only at this; omega)
      clear hf hf'
      simp only at g0 g1 g2 g3 i0 i1 i2 i3
      go_wp2
      go_region_with (first | (go_at_call 99; refine (HQ.out _ ((Below.refl _ _).drew)).mono ?_; rintro e w2 ⟨rfl,hb2⟩; have HW2 : Hid (Below w.heap.size w w2) := below_tr hw.out (below_tr ((Below.refl _ _).drew) hb2); clear hb2))
      all_goals go_wp2
      all_goals exact ⟨⟨k + 1,by omega,by go_num,HW2.out⟩,by simp [intOf]; omega⟩
    · go_wp2
      go_ret
      exact ⟨rfl,hw.out⟩
set_option maxHeartbeats 2000000 in
theorem law_eqTxnsF (a b : Option Addr) (n ca cb : Nat) (l m : List TD) (w : World) (ha : Txs w a n l) (hb : Txs w b n m) (hs : l.map TD.strip = m.map TD.strip) (hn : n ≤ 2097152) :
    Calls Tryz.prog 49 #[.slice a n ca,.slice b n cb] w fun e w' => e = .returned (.bool true) ∧ Below w.heap.size w w' := by
  have HA : Hid (Txs w a n l) := ha
  have HB : Hid (Txs w b n m) := hb
  have HS : Hid (l.map TD.strip = m.map TD.strip) := hs
  clear ha hb hs
  go_enter Tryz.func49,Tryz.ntmps49
  go_wp2
  go_loopw [5] (fun i wr => ∃ k : Nat,k ≤ n ∧ i = .int .i64 k ∧ Hid (Below w.heap.size w wr)) (fun i _ => n - (intOf i).toNat)
  case atStart => exact ⟨0,by omega,rfl,Below.refl _ _⟩
  case round =>
    obtain ⟨k,hk,rfl,hw⟩ := hrel
    by_cases hlt : k < n
    · obtain ⟨b1,o1,r,rfl,e1,g0,g1,g2,g3,g4,g5,hf⟩ := txsG_at keeps_tfit HA.out hw.out hlt
      obtain ⟨b2,o2,r',rfl,e2,i0,i1,i2,i3,i4,i5,hf'⟩ := txsG_at keeps_tfit HB.out hw.out hlt
      have hst := strip_at HS.out e1 e2
      clear e1 e2
      obtain ⟨p,q,s,u,xa,xl,xc,ya,yl,yc,rs,ls⟩ := r
      obtain ⟨p',q',s',u',xa',xl',xc',ya',yl',yc',rs',ls'⟩ := r'
      simp only [TD.strip,TD.mk.injEq] at hst
      obtain ⟨rfl,rfl,rfl,rfl,_,_,_,_,_,_,rfl,rfl⟩ := hst
      obtain rfl : xl = xl' := hf.out.r.nums.1.symm.trans hf'.out.r.nums.1
      obtain rfl : yl = yl' := hf.out.l.nums.1.symm.trans hf'.out.l.nums.1
      have HQ : Hid (∀ w,Below wr.heap.size wr w → Calls Tryz.prog 100 #[txnV p q s u xa xl xc ya yl yc,txnV p q s u xa' xl xc' ya' yl yc'] w fun e w' => e = .returned (.bool true) ∧ Below w.heap.size w w') :=
        fun w hb => law_eqTxn xa' xc' ya' yc' rs ls w (hf.out.below hb).r.nums (hf'.out.below hb).r.nums (hf.out.below hb).l.nums (hf'.out.below hb).l.nums (by have := hf.out.rle; simp only at this; omega) (by have := hf.out.lle; simp only at this; omega)
      clear hf hf'
      simp only at g0 g1 g2 g3 g4 g5 i0 i1 i2 i3 i4 i5
      go_wp2
      go_region_with (first | (go_at_call 100; refine (HQ.out _ ((Below.refl _ _).drew)).mono ?_; rintro e w2 ⟨rfl,hb2⟩; have HW2 : Hid (Below w.heap.size w w2) := below_tr hw.out (below_tr ((Below.refl _ _).drew) hb2); clear hb2))
      all_goals go_wp2
      all_goals exact ⟨⟨k + 1,by omega,by go_num,HW2.out⟩,by simp [intOf]; omega⟩
    · go_wp2
      go_ret
      exact ⟨rfl,hw.out⟩
set_option maxHeartbeats 2000000 in
theorem law_eqFabF (ra : Option Addr) (rl rc : Nat) (ea : Option Addr) (el ec : Nat) (ta : Option Addr) (tl tc : Nat) (ra' : Option Addr) (rc' : Nat) (ea' : Option Addr) (ec' : Nat) (ta' : Option Addr) (tc' : Nat) (now : Int) (rs rs' : List RD) (es : List Int) (ts ts' : List TD) (w : World)
    (h : FIn w ra rl ea el ta tl rs es ts) (h' : FIn w ra' rl ea' el ta' tl rs' es ts') (hr : rs.map RD.strip = rs'.map RD.strip) (ht : ts.map TD.strip = ts'.map TD.strip) :
    Calls Tryz.prog 12 #[fabVal ra rl rc ea el ec ta tl tc now,fabVal ra' rl rc' ea' el ec' ta' tl tc' now] w fun e w' => e = .returned (.bool true) ∧ Below w.heap.size w w' := by
  have e1 : (now != now) = false := by simp
  have H1 : Hid (FIn w ra rl ea el ta tl rs es ts) := h
  have H2 : Hid (FIn w ra' rl ea' el ta' tl rs' es ts') := h'
  have hrl := h.rle
  have hel := h.ele
  have htl := h.tle
  clear h h'
  have hB0 : Hid (Below w.heap.size w ((w.alloc (fabO ra rl rc ea el ec ta tl tc now)).alloc (fabO ra' rl rc' ea' el ec' ta' tl tc' now))) := ((Below.refl _ _).alloc (Nat.le_refl _) _).alloc (by simp) _
  go_enter Tryz.func12,Tryz.ntmps12
  go_wp2_with fail
  refine (law_eqRingsF ra ra' rl rc rc' rs rs' _ (H1.out.below hB0.out).rs (H2.out.below hB0.out).rs hr (by omega)).mono ?_
  rintro e w1 ⟨rfl,hb1⟩
  have hc1 := fun o => hb1.cell (p := ⟨w.heap.size,o,none⟩) (by simp only [World.size_alloc]; omega)
  have hc2 := fun o => hb1.cell (p := ⟨w.heap.size + 1,o,none⟩) (by simp only [World.size_alloc]; omega)
  have hz1 := hb1.size
  simp only [World.size_alloc] at hz1
  have hB1 : Hid (Below w.heap.size w w1) := below_tr hB0.out hb1
  clear hb1
  go_wp2_with fail
  refine (law_eqNums ea ea' el ec ec' es _ (H1.out.below hB1.out).es (H2.out.below hB1.out).es (by omega)).mono ?_
  rintro e w2 ⟨rfl,hb2⟩
  have hd1 := fun o => (hb2.cell (p := ⟨w.heap.size,o,none⟩) (show w.heap.size < _ by omega)).trans (hc1 o)
  have hd2 := fun o => (hb2.cell (p := ⟨w.heap.size + 1,o,none⟩) (show w.heap.size + 1 < _ by omega)).trans (hc2 o)
  have hz2 := hb2.size
  have hB2 : Hid (Below w.heap.size w w2) := below_tr hB1.out hb2
  clear hb2 hc1 hc2
  go_wp2_with fail
  refine (law_eqTxnsF ta ta' tl tc tc' ts ts' _ (H1.out.below hB2.out).ts (H2.out.below hB2.out).ts ht (by omega)).mono ?_
  rintro e w3 ⟨rfl,hb3⟩
  have hc1 := fun o => (hb3.cell (p := ⟨w.heap.size,o,none⟩) (show w.heap.size < _ by omega)).trans (hd1 o)
  have hc2 := fun o => (hb3.cell (p := ⟨w.heap.size + 1,o,none⟩) (show w.heap.size + 1 < _ by omega)).trans (hd2 o)
  have hB3 : Hid (Below w.heap.size w w3) := below_tr hB2.out hb3
  clear hb3 hd1 hd2
  go_wp2
  go_ret
  exact ⟨rfl,hB3.out⟩
end Go.Proofs.YtahccighonddaaaGreatDoor
namespace Go.Proofs.YtahccighonddaaaGreatDoor
open Go.RowKit
set_option linter.unusedSimpArgs false
set_option linter.unusedVariables false
def LeftT (L T : Nat) (z : Int) : Prop := z = -1 ∨ ∃ x : Nat,z = (x : Int) ∧ x + T = L
theorem szLeft_t {L n s : Nat} : LeftT L (n + s) (szLeft L n s) := by
  unfold szLeft LeftT
  by_cases hh : n + s ≤ L
  · rw [if_pos hh]; exact .inr ⟨_,rfl,by omega⟩
  · rw [if_neg hh]; exact .inl rfl
theorem txnLeft_t {L n m : Nat} : LeftT L (n + m) (txnLeft L n m) := by
  unfold txnLeft LeftT
  by_cases hh : n + m ≤ L
  · rw [if_pos hh]; exact .inr ⟨_,rfl,by omega⟩
  · rw [if_neg hh]; exact .inl rfl
theorem nszLeft_t {L n : Nat} : LeftT L n (nszLeft L n) := by
  unfold nszLeft LeftT
  by_cases hh : n ≤ L
  · rw [if_pos hh]; exact .inr ⟨_,rfl,by omega⟩
  · rw [if_neg hh]; exact .inl rfl
def RD.sz (r : RD) : Nat := r.rl + strSum r.recs + r.cl
def TD.sz (t : TD) : Nat := t.rl + t.ll
def szSum {α : Type} (f : α → Nat) (l : List α) : Nat := (l.map f).sum
theorem szSum_succ {α : Type} {f : α → Nat} {l : List α} {k : Nat} {r : α} (h : l[k]? = some r) : szSum f (l.take (k + 1)) = szSum f (l.take k) + f r := by
  obtain ⟨hj,e⟩ := List.getElem?_eq_some_iff.1 h
  unfold szSum
  rw [List.take_succ_eq_append_getElem hj,List.map_append,List.sum_append,e]
  simp
theorem szSum_mem {α : Type} {f : α → Nat} {l : List α} {r : α} (h : r ∈ l) : f r ≤ szSum f l := by
  induction l with
  | nil => cases h
  | cons x t ih =>
    have e : szSum f (x :: t) = f x + szSum f t := by simp [szSum]
    rcases List.mem_cons.1 h with rfl | h
    · omega
    · have := ih h
      omega
theorem szSum_take {α : Type} (f : α → Nat) (l : List α) (k : Nat) : szSum f (l.take k) ≤ szSum f l := by
  have e : szSum f l = szSum f (l.take k) + szSum f (l.drop k) := by
    unfold szSum
    rw [← List.sum_append,← List.map_append,List.take_append_drop]
  omega
set_option maxHeartbeats 1000000 in
theorem law_szRingT (r : RD) (L : Nat) (w : World) (hi : r.lin w) (hL : L ≤ 1048576) :
    Calls Tryz.prog 76 #[r.v,.int .i64 L] w fun e w' => ∃ z : Int,e = .returned (.int .i64 z) ∧ Hid (LeftT L r.sz z) ∧ Below w.heap.size w w' := by
  obtain ⟨cap,first,ra,rl,rc,ca,cl,cc,recs,curs⟩ := r
  have HR : Hid (∀ o,Strs (w.alloc o) ra rl recs) := fun o => strs_below hi.strs ((Below.refl _ _).alloc (Nat.le_refl _) _)
  have HS : Hid (∀ s ∈ recs,s.size ≤ maxLen) := hi.sz
  have hn : rl ≤ maxLen := hi.rle
  have hm : cl ≤ maxLen := hi.cle
  have HSZ : Hid (RD.sz ⟨cap,first,ra,rl,rc,ca,cl,cc,recs,curs⟩ = rl + strSum recs + cl) := show _ = _ from rfl
  clear hi
  have HQ : Hid _ := fun o => law_szStrs ra rl rc recs L (w.alloc o) (HR.out o) hn HS.out hL
  have hQ : LeftT L (rl + strSum recs) (szLeft L rl (strSum recs)) := szLeft_t
  obtain ⟨z,hz⟩ : ∃ z,szLeft L rl (strSum recs) = z := ⟨_,rfl⟩
  rw [hz] at HQ hQ
  clear hz
  rcases hQ with rfl | ⟨x,rfl,hx⟩
  · go_enter Tryz.func76,Tryz.ntmps76
    go_wp2_with fail
    refine (HQ.out _).mono ?_
    rintro e w1 ⟨rfl,rfl⟩
    go_wp2
    go_ret
    exact ⟨_,rfl,.inl rfl,(Below.refl _ _).alloc (Nat.le_refl _) _⟩
  · have hxl : x ≤ L := by omega
    have HX : Hid (x + (rl + strSum recs) = L) := hx
    clear hx
    have hQ2 : LeftT x (cl + 0) (szLeft x cl 0) := szLeft_t
    have HC : Hid _ := fun w => law_szCurs ca cl cc x w hm (by omega)
    obtain ⟨z,hz⟩ : ∃ z,szLeft x cl 0 = z := ⟨_,rfl⟩
    rw [hz] at HC hQ2
    clear hz
    rcases hQ2 with rfl | ⟨y,rfl,hy⟩
    · go_enter Tryz.func76,Tryz.ntmps76
      go_wp2_with fail
      refine (HQ.out _).mono ?_
      rintro e w1 ⟨rfl,rfl⟩
      go_wp2_with fail
      refine (HC.out _).mono ?_
      rintro e w1 ⟨rfl,rfl⟩
      go_wp2
      go_ret
      exact ⟨_,rfl,.inl rfl,(Below.refl _ _).alloc (Nat.le_refl _) _⟩
    · have HY : Hid (LeftT L (RD.sz ⟨cap,first,ra,rl,rc,ca,cl,cc,recs,curs⟩) (y : Int)) := .inr ⟨y,rfl,by rw [HSZ.out]; have := HX.out; omega⟩
      have hyl : y ≤ L := by omega
      clear hy
      go_enter Tryz.func76,Tryz.ntmps76
      go_wp2_with fail
      refine (HQ.out _).mono ?_
      rintro e w1 ⟨rfl,rfl⟩
      go_wp2_with fail
      refine (HC.out _).mono ?_
      rintro e w1 ⟨rfl,rfl⟩
      go_wp2
      go_ret
      exact ⟨_,rfl,HY.out,(Below.refl _ _).alloc (Nat.le_refl _) _⟩
set_option maxHeartbeats 2000000 in
theorem law_szRingsT (a : Option Addr) (n c : Nat) (l : List RD) (L : Nat) (w : World) (hi : LRngs w a n l) (hn : n ≤ maxLen) (hL : L ≤ 1048576) :
    Calls Tryz.prog 25 #[.slice a n c,.int .i64 L] w fun e w' => ∃ z : Int,e = .returned (.int .i64 z) ∧ Hid (LeftT L (n + szSum RD.sz l) z) ∧ Below w.heap.size w w' := by
  have hl : l.length = n := hi.1
  unfold maxLen at hn
  have HI : Hid (LRngs w a n l) := hi
  have HL : Hid _ := hl
  clear hi hl
  by_cases h0 : L < n
  · go_enter Tryz.func25,Tryz.ntmps25
    go_wp2
    go_ret
    exact ⟨_,rfl,.inl rfl,Below.refl _ _⟩
  · go_enter Tryz.func25,Tryz.ntmps25
    go_wp2
    go_loopw [1,5] (fun q i wr => ∃ (k x : Nat),k ≤ n ∧ i = .int .i64 k ∧ q = .int .i64 x ∧ x ≤ L ∧ Hid (x + n + szSum RD.sz (l.take k) = L) ∧ Hid (Below w.heap.size w wr)) (fun _ i _ => n - (intOf i).toNat)
    case atStart => exact ⟨0,L - n,by omega,rfl,by go_num,by omega,show _ = _ by simp [szSum]; omega,Below.refl _ _⟩
    case round =>
      obtain ⟨k,x,hk,rfl,rfl,hx,hs,hw⟩ := hrel
      by_cases hlt : k < n
      · obtain ⟨b,off,r,rfl,e1,g0,g1,g2,g3,hf⟩ := rngsG_at keeps_lin HI.out hw.out hlt
        have HE : Hid (l[k]? = some r) := e1
        have HQ : Hid _ := fun w h => law_szRingT r x w h (by omega)
        clear e1
        go_wp2_with fail
        refine (HQ.out _ hf.out).mono ?_
        rintro e w2 ⟨z,rfl,hz,hb2⟩
        have HW2 : Hid (Below w.heap.size w w2) := below_tr hw.out hb2
        clear hb2
        rcases hz.out with rfl | ⟨y,rfl,hy⟩
        · go_wp2
          go_ret
          exact ⟨_,rfl,.inl rfl,HW2.out⟩
        · have HN : Hid (y + n + szSum RD.sz (l.take (k + 1)) = L) := show _ = _ by
            rw [szSum_succ HE.out]
            have := hs.out
            omega
          have hyl : y ≤ L := by omega
          clear hz hy
          go_wp2
          exact ⟨⟨k + 1,y,by omega,by go_num,rfl,by omega,HN.out,HW2.out⟩,by simp [intOf]; omega⟩
      · have HT : Hid (x + (n + szSum RD.sz l) = L) := show _ = _ by
          have h := hs.out
          rw [List.take_of_length_le (by rw [HL.out]; omega)] at h
          omega
        go_wp2
        go_ret
        exact ⟨_,rfl,.inr ⟨x,rfl,HT.out⟩,hw.out⟩
theorem law_szTxnT (t : TD) (L : Nat) (w : World) (hi : t.lin w) (hL : L ≤ 1048576) :
    Calls Tryz.prog 77 #[t.v,.int .i64 L] w fun e w' => ∃ z : Int,e = .returned (.int .i64 z) ∧ Hid (LeftT L t.sz z) ∧ Below w.heap.size w w' :=
  (law_szTxn L w hi.l.rle hi.l.lle hL).mono (fun e w' h => ⟨_,h.1,(show LeftT L t.sz _ from txnLeft_t),h.2⟩)
set_option maxHeartbeats 2000000 in
theorem law_szTxnsT (a : Option Addr) (n c : Nat) (l : List TD) (L : Nat) (w : World) (hi : LTxs w a n l) (hn : n ≤ maxLen) (hL : L ≤ 1048576) :
    Calls Tryz.prog 27 #[.slice a n c,.int .i64 L] w fun e w' => ∃ z : Int,e = .returned (.int .i64 z) ∧ Hid (LeftT L (n + szSum TD.sz l) z) ∧ Below w.heap.size w w' := by
  have hl : l.length = n := hi.1
  unfold maxLen at hn
  have HI : Hid (LTxs w a n l) := hi
  have HL : Hid _ := hl
  clear hi hl
  by_cases h0 : L < n
  · go_enter Tryz.func27,Tryz.ntmps27
    go_wp2
    go_ret
    exact ⟨_,rfl,.inl rfl,Below.refl _ _⟩
  · go_enter Tryz.func27,Tryz.ntmps27
    go_wp2
    go_loopw [1,5] (fun q i wr => ∃ (k x : Nat),k ≤ n ∧ i = .int .i64 k ∧ q = .int .i64 x ∧ x ≤ L ∧ Hid (x + n + szSum TD.sz (l.take k) = L) ∧ Hid (Below w.heap.size w wr)) (fun _ i _ => n - (intOf i).toNat)
    case atStart => exact ⟨0,L - n,by omega,rfl,by go_num,by omega,show _ = _ by simp [szSum]; omega,Below.refl _ _⟩
    case round =>
      obtain ⟨k,x,hk,rfl,rfl,hx,hs,hw⟩ := hrel
      by_cases hlt : k < n
      · obtain ⟨b,off,r,rfl,e1,g0,g1,g2,g3,g4,g5,hf⟩ := txsG_at keeps_tlin HI.out hw.out hlt
        have HE : Hid (l[k]? = some r) := e1
        have HQ : Hid _ := fun w h => law_szTxnT r x w h (by omega)
        clear e1
        go_wp2_with fail
        refine (HQ.out _ hf.out).mono ?_
        rintro e w2 ⟨z,rfl,hz,hb2⟩
        have HW2 : Hid (Below w.heap.size w w2) := below_tr hw.out hb2
        clear hb2
        rcases hz.out with rfl | ⟨y,rfl,hy⟩
        · go_wp2
          go_ret
          exact ⟨_,rfl,.inl rfl,HW2.out⟩
        · have HN : Hid (y + n + szSum TD.sz (l.take (k + 1)) = L) := show _ = _ by
            rw [szSum_succ HE.out]
            have := hs.out
            omega
          have hyl : y ≤ L := by omega
          clear hz hy
          go_wp2
          exact ⟨⟨k + 1,y,by omega,by go_num,rfl,by omega,HN.out,HW2.out⟩,by simp [intOf]; omega⟩
      · have HT : Hid (x + (n + szSum TD.sz l) = L) := show _ = _ by
          have h := hs.out
          rw [List.take_of_length_le (by rw [HL.out]; omega)] at h
          omega
        go_wp2
        go_ret
        exact ⟨_,rfl,.inr ⟨x,rfl,HT.out⟩,hw.out⟩
def fabSz (rl el tl : Nat) (rs : List RD) (ts : List TD) : Nat := rl + szSum RD.sz rs + el + tl + szSum TD.sz ts
theorem fabSz_small {rl el tl : Nat} {rs : List RD} {ts : List TD} (h : fabSz rl el tl rs ts ≤ 1048576) : FSmall rl el tl rs ts := by
  unfold fabSz at h
  refine ⟨by omega,by omega,by omega,fun r hr => ?_,fun t ht => ?_⟩
  · have h1 : r.sz ≤ szSum RD.sz rs := szSum_mem hr
    have h2 : r.sz = r.rl + strSum r.recs + r.cl := rfl
    exact ⟨by omega,by omega,fun s hs => by have := strSum_mem _ _ hs; omega⟩
  · have h1 : t.sz ≤ szSum TD.sz ts := szSum_mem ht
    have h2 : t.sz = t.rl + t.ll := rfl
    exact ⟨by omega,by omega⟩
set_option maxHeartbeats 2000000 in
theorem law_szFabT (ra : Option Addr) (rl rc : Nat) (ea : Option Addr) (el ec : Nat) (ta : Option Addr) (tl tc : Nat) (now : Int) (rs : List RD) (es : List Int) (ts : List TD) (w : World) (hi : LFIn w ra rl ea el ta tl rs es ts) :
    Calls Tryz.prog 7 #[fabVal ra rl rc ea el ec ta tl tc now,.int .i64 1048576] w fun e w' => ∃ z : Int,e = .returned (.int .i64 z) ∧ Hid (z = -1 ∨ ∃ x : Nat,z = (x : Int) ∧ x ≤ 1048576 ∧ fabSz rl el tl rs ts ≤ 1048576) ∧ Below w.heap.size w w' := by
  have HI : Hid (LFIn w ra rl ea el ta tl rs es ts) := hi
  have hel := hi.ele
  have htl := hi.tle
  have hrl := hi.rle
  clear hi
  have HB0 : Hid (∀ o,Below w.heap.size w (w.alloc o)) := fun o => fbelow_new _ _
  go_enter Tryz.func7,Tryz.ntmps7
  go_wp2_with fail
  refine (law_szRingsT ra rl rc rs 1048576 _ (HI.out.below (HB0.out _)).rs hrl (by omega)).mono ?_
  rintro e w1 ⟨z,rfl,hz,hb1⟩
  have HB1 : Hid (Below w.heap.size w w1) := below_tr (HB0.out _) hb1
  have hc1 := fun o => hb1.cell (p := ⟨w.heap.size,o,none⟩) (by simp)
  clear hb1
  rcases hz.out with rfl | ⟨x,rfl,hx⟩
  · go_wp2
    go_ret
    exact ⟨_,rfl,.inl rfl,HB1.out⟩
  have HX : Hid (x + (rl + szSum RD.sz rs) = 1048576) := hx
  have hxl : x ≤ 1048576 := by omega
  clear hz hx
  go_wp2_with fail
  have hQ := (nszLeft_t : LeftT x el (nszLeft x el))
  refine (law_szNums ea el ec x _ hel hxl).mono ?_
  rintro e w2 ⟨rfl,hw2⟩
  rw [hw2]
  clear hw2 w2
  obtain ⟨z,hz⟩ : ∃ z,nszLeft x el = z := ⟨_,rfl⟩
  rw [hz] at hQ ⊢
  clear hz
  rcases hQ with rfl | ⟨y,rfl,hy⟩
  · go_wp2
    go_ret
    exact ⟨_,rfl,.inl rfl,HB1.out⟩
  have HY : Hid (y + el = x) := hy
  have hyl : y ≤ 1048576 := by omega
  clear hy
  go_wp2_with fail
  refine (law_szTxnsT ta tl tc ts y _ (HI.out.below HB1.out).ts htl hyl).mono ?_
  rintro e w3 ⟨z,rfl,hz,hb3⟩
  have HB3 : Hid (Below w.heap.size w w3) := below_tr HB1.out hb3
  clear hb3
  rcases hz.out with rfl | ⟨v,rfl,hv⟩
  · go_wp2
    go_ret
    exact ⟨_,rfl,.inl rfl,HB3.out⟩
  · have HV : Hid (fabSz rl el tl rs ts ≤ 1048576) := show _ ≤ _ by
      have h1 := HX.out
      have h2 := HY.out
      unfold fabSz
      omega
    have hvl : v ≤ 1048576 := by omega
    clear hz hv
    go_wp2
    go_ret
    exact ⟨_,rfl,.inr ⟨v,rfl,hvl,HV.out⟩,HB3.out⟩
end Go.Proofs.YtahccighonddaaaGreatDoor
namespace Go.Proofs.YtahccighonddaaaGreatDoor
open Go.RowKit
theorem openAt_strip (ts : List TD) (k : Nat) (p : Int) : openAt (ts.map TD.strip) k p = openAt ts k p := by
  unfold openAt
  rw [← List.map_take,List.any_map]
  rfl
theorem openB_strip (ts : List TD) : openB (ts.map TD.strip) = openB ts := by
  unfold openB
  rw [List.length_map]
  congr 1
  funext j
  rw [List.getElem?_map]
  cases ts[j]? with
  | none => rfl
  | some t =>
    simp only [Option.map_some]
    rw [openAt_strip]
    rfl
theorem txnsFit_strip (es : List Int) (n : Nat) (now : Int) (ts : List TD) : txnsFitB es n now (ts.map TD.strip) = txnsFitB es n now ts := by
  unfold txnsFitB
  rw [openB_strip,List.all_map]
  rfl
theorem owedN_strip (ts : List TD) (k : Int) : owedN (ts.map TD.strip) k = owedN ts k := by
  unfold owedN
  rw [List.countP_map]
  rfl
theorem numFit_strip (ts : List TD) (k n : Int) : numFitB (ts.map TD.strip) k n = numFitB ts k n := by
  unfold numFitB
  rw [List.getElem?_map]
  cases ts[(n - 1).toNat]? <;> rfl
theorem ringFit_strip (ts : List TD) (k : Int) (r : RD) : ringFitB (ts.map TD.strip) k r.strip = ringFitB ts k r := by
  unfold ringFitB
  rw [owedN_strip]
  have e : recFitB (ts.map TD.strip) k = recFitB ts k := by
    funext s
    exact numFit_strip ts k _
  rw [e]
  rfl
theorem ringsFit_strip (ts : List TD) (rs : List RD) : ringsFitB (ts.map TD.strip) (rs.map RD.strip) = ringsFitB ts rs := by
  unfold ringsFitB
  rw [Bool.eq_iff_iff,decide_eq_true_iff,decide_eq_true_iff]
  constructor
  · intro h k hk _
    have h1 := h k (by rw [List.length_map]; exact hk) (by rw [List.length_map]; exact hk)
    rw [List.getElem_map,ringFit_strip] at h1
    exact h1
  · intro h k hk _
    have hk' : k < rs.length := by rwa [List.length_map] at hk
    rw [List.getElem_map,ringFit_strip]
    exact h k hk' hk'
theorem fab_strip (rs : List RD) (es : List Int) (ts : List TD) (now : Int) : fabRightB (rs.map RD.strip) es (ts.map TD.strip) now = fabRightB rs es ts now := by
  unfold fabRightB fabSizesB
  rw [ringsFit_strip,List.length_map,List.length_map,txnsFit_strip]
theorem fab_same {rs rs' : List RD} {ts ts' : List TD} (es : List Int) (now : Int) (hr : rs.map RD.strip = rs'.map RD.strip) (ht : ts.map TD.strip = ts'.map TD.strip) : fabRightB rs es ts now = fabRightB rs' es ts' now := by
  rw [← fab_strip rs es ts now,← fab_strip rs' es ts' now,hr,ht]
end Go.Proofs.YtahccighonddaaaGreatDoor
namespace Go.Proofs.YtahccighonddaaaGreatDoor
open Go.RowKit
def dataOf (ts : List TD) (st : Int) (s : ByteArray) : Bool := (readRes s).1 == 1 && (match ts[((readRes s).2.1 - 1).toNat]? with | some t => t.s == st | none => false)
def stableR (ts : List TD) (r : RD) : Int := r.first + (r.recs.findIdx (dataOf ts 1) : Int)
def noneTo (p : ByteArray → Bool) (recs : List ByteArray) (j : Nat) : Prop := ∀ i,i < j → ∀ (h : i < recs.length),p recs[i] = false
theorem noneTo_succ {p : ByteArray → Bool} {recs : List ByteArray} {j : Nat} (h : noneTo p recs j) (hj : j < recs.length) (hr : p recs[j] = false) : noneTo p recs (j + 1) := fun i hi hl => by
  by_cases e : i = j
  · subst e; exact hr
  · exact h i (by omega) hl
theorem noneTo_at {p : ByteArray → Bool} {recs : List ByteArray} {j : Nat} (h : noneTo p recs j) (hj : j < recs.length) (hr : p recs[j] = true) : recs.findIdx p = j :=
  (List.findIdx_eq hj).2 ⟨hr,fun i hi => h i hi (by omega)⟩
theorem noneTo_end {p : ByteArray → Bool} {recs : List ByteArray} {j : Nat} (h : noneTo p recs j) (hj : recs.length ≤ j) : recs.findIdx p = recs.length :=
  List.findIdx_eq_length.2 fun x hx => by
    obtain ⟨i,hi,rfl⟩ := List.getElem_of_mem hx
    exact h i (by omega) hi
theorem dataOf_strip (ts : List TD) (st : Int) (s : ByteArray) : dataOf (ts.map TD.strip) st s = dataOf ts st s := by
  unfold dataOf
  rw [List.getElem?_map]
  cases ts[((readRes s).2.1 - 1).toNat]? <;> rfl
theorem right_ring {rs : List RD} {es : List Int} {ts : List TD} {now : Int} (h : fabRightB rs es ts now = true) {k : Nat} {r : RD} (hk : rs[k]? = some r) : ringFitB ts (k : Int) r = true := by
  simp only [fabRightB,Bool.and_eq_true] at h
  obtain ⟨hl,e⟩ := List.getElem?_eq_some_iff.1 hk
  have := of_decide_eq_true h.2 k hl hl
  rw [e] at this
  exact this
theorem fit_right {ts : List TD} {k : Int} {r : RD} (h : ringFitB ts k r = true) : ringRightB r.cap r.first r.recs r.curs = true := by
  simp only [ringFitB,Bool.and_eq_true] at h
  exact h.1.1.1
theorem fit_txn {ts : List TD} {k : Int} {r : RD} (h : ringFitB ts k r = true) {j : Nat} (hj : j < r.recs.length) : ∃ (M : Nat) (t : TD),(readRes r.recs[j]).2.1 = (M : Int) + 1 ∧ ts[M]? = some t := by
  simp only [ringFitB,Bool.and_eq_true,List.all_eq_true] at h
  have h1 := h.2 _ (List.getElem_mem hj)
  unfold recFitB numFitB at h1
  simp only [Bool.and_eq_true,decide_eq_true_eq] at h1
  refine ⟨((readRes r.recs[j]).2.1 - 1).toNat,?_⟩
  cases ht : ts[((readRes r.recs[j]).2.1 - 1).toNat]? with
  | none => rw [ht] at h1; exact absurd h1.2 (by simp)
  | some t => exact ⟨t,by omega,rfl⟩
theorem dataOf_at {ts : List TD} {st : Int} {s : ByteArray} {M : Nat} {t : TD} (hM : (readRes s).2.1 = (M : Int) + 1) (ht : ts[M]? = some t) : dataOf ts st s = ((readRes s).1 == 1 && t.s == st) := by
  unfold dataOf
  rw [hM,show ((M : Int) + 1 - 1).toNat = M by omega,ht]
end Go.Proofs.YtahccighonddaaaGreatDoor
namespace Go.Proofs.YtahccighonddaaaGreatDoor
open Go.RowKit
attribute [local go_sem ↓] Go.wp_at_zero Go.wp_at_succ
set_option linter.unusedSimpArgs false
set_option linter.unusedVariables false
set_option maxRecDepth 100000 in
set_option maxHeartbeats 4000000 in
theorem spec_lstable (ra : Option Addr) (rl rc : Nat) (ea : Option Addr) (el ec : Nat) (ta : Option Addr) (tl tc : Nat) (now : Int) (rs : List RD) (ts : List TD) (k : Nat) (r : RD) (w : World) (hR : Rngs w ra rl rs) (hT : Txs w ta tl ts) (hk : rs[k]? = some r) (hfit : ringFitB ts (k : Int) r = true) (hrl : rl ≤ 1048576) (htl : tl ≤ 1048576) :
    Calls Tryz.prog 63 #[fabVal ra rl rc ea el ec ta tl tc now,.int .i64 k] w fun e w' => e = .returned (.int .i64 (stableR ts r)) ∧ Below w.heap.size w w' := by
  have hkl : k < rl := by rw [← hR.1]; exact (List.getElem?_eq_some_iff.1 hk).1
  have HT : Hid (Txs w ta tl ts) := hT
  have hF0 := fb_new w #[.slice ra rl rc,.slice ea el ec,.slice ta tl tc,.int .i64 now] 31
  obtain ⟨b,off,r',rfl,e1,g0,g1,g2,g3,hf⟩ := rngsG_at keeps_fit hR hF0.bel hkl
  obtain rfl : r = r' := Option.some.inj (hk.symm.trans e1)
  clear hT hR e1 hk
  have H0 : Hid (LW w ((w.alloc (fabO (some ⟨b,off,none⟩) rl rc ea el ec ta tl tc now)).alloc r.obj) (fabO (some ⟨b,off,none⟩) rl rc ea el ec ta tl tc now) (w.heap.size + 1) r ta tl ts) :=
    ⟨hF0.under (fbelow_new _ _),by have h := heap_alloc_new (w.alloc (fabO (some ⟨b,off,none⟩) rl rc ea el ec ta tl tc now)) r.obj; rwa [World.size_alloc] at h,hf.out.below (fbelow_new _ _),txs_below HT.out (below_tr hF0.bel (fbelow_new _ _))⟩
  clear hF0 hf HT
  have HRR : Hid (ringRightB r.cap r.first r.recs r.curs = true) := fit_right hfit
  have HTX : Hid (∀ (j : Nat) (hj : j < r.recs.length),∃ (M : Nat) (t : TD),(readRes r.recs[j]).2.1 = (M : Int) + 1 ∧ ts[M]? = some t) := fun j hj => fit_txn hfit hj
  have hF := (right_first HRR.out).1
  clear hfit
  obtain ⟨cap,first,ra',rl',rc',ca',cl',cc',recs,curs⟩ := r
  simp only at g0 g1 g2 g3 hF
  have hrl' : rl' ≤ 1048576 := H0.out.fit.rle
  have HLEN : Hid (recs.length = rl') := H0.out.fit.str.strs.1
  have HE : Hid (∀ w,True → _) := fun w _ => spec_end cap first ra' rl' rc' ca' cl' cc' w hF hrl'
  go_enter Tryz.func63,Tryz.ntmps63
  go_wp2_with fail
  go_loopw [6] (fun i wr => ∃ (j : Nat) (y : Int),j ≤ rl' ∧ i = .int .i64 y ∧ Hid (y = first + (j : Int)) ∧ Hid (noneTo (dataOf ts 1) recs j) ∧ Hid (LW w wr (fabO (some ⟨b,off,none⟩) rl rc ea el ec ta tl tc now) (w.heap.size + 1) ⟨cap,first,ra',rl',rc',ca',cl',cc',recs,curs⟩ ta tl ts)) (fun i _ => (first + (rl' : Int) - intOf i).toNat)
  case atStart => exact ⟨0,first,by omega,rfl,show _ = _ by simp,fun i hi => by omega,H0.out⟩
  case round =>
    obtain ⟨j,y,hj,rfl,hy,hto,hw⟩ := hrel
    clear H0 g0 g1 g2 g3
    have ct := fun o => fb_cell hw.out.box o
    have cf := fun o => fb_cell hw.out.fb.box o
    go_wp2_with fail
    refine (HE.out _ trivial).mono ?_
    rintro x v ⟨rfl,hbv⟩
    have H3 : Hid (LW w v (fabO (some ⟨b,off,none⟩) rl rc ea el ec ta tl tc now) (w.heap.size + 1) ⟨cap,first,ra',rl',rc',ca',cl',cc',recs,curs⟩ ta tl ts) := hw.out.under hbv
    clear hbv ct cf hw
    have ct := fun o => fb_cell H3.out.box o
    have cf := fun o => fb_cell H3.out.fb.box o
    by_cases hlt : j < rl'
    · have hjr : j < recs.length := by rw [HLEN.out]; exact hlt
      obtain ⟨hn1,hn2,hra⟩ := rec_num HRR.out hjr
      obtain ⟨M,t,hM,het⟩ := HTX.out j hjr
      have hD : dataOf ts 1 recs[j] = ((recAt recs j).1 == 1 && t.s == 1) := by rw [dataOf_at hM het,hra]
      rw [← hra] at hM
      have HA : Hid (∀ w,RFit w ra' rl' rc' ca' cl' cc' recs curs → _) := fun w h => spec_lat (cap := cap) (first := first) (ca := ca') (cl := cl') (cc := cc') recs j w h.str (fun s hs => by have := h.sz s hs; unfold maxLen; omega) hlt hrl'
      obtain ⟨n1,hk1⟩ : ∃ x,(recAt recs j).1 = x := ⟨_,rfl⟩
      obtain ⟨n2,hk2⟩ : ∃ x,(recAt recs j).2.1 = x := ⟨_,rfl⟩
      obtain ⟨n3,hk3⟩ : ∃ x,(recAt recs j).2.2.1 = x := ⟨_,rfl⟩
      rw [hk1,hk2,hk3] at HA
      rw [hk2] at hM
      rw [hk1] at hD
      subst hM
      have HDN : Hid ((n1 == 1 && t.s == 1) = false → noneTo (dataOf ts 1) recs (j + 1)) := fun h => noneTo_succ hto.out hjr (hD.trans h)
      have HDY : Hid ((n1 == 1 && t.s == 1) = true → y = stableR ts ⟨cap,first,ra',rl',rc',ca',cl',cc',recs,curs⟩) := fun h => by
        have h1 := noneTo_at hto.out hjr (hD.trans h)
        simp only [stableR,h1]
        exact hy.out
      have hMt : M < tl := by rw [← H3.out.txs.1]; exact (List.getElem?_eq_some_iff.1 het).1
      clear hk1 hk2 hk3 hra hto hjr hD hn1 hn2
      have hji : y < first + (rl' : Int) := by have := hy.out; omega
      have hwj : IntKind.i64.wrap (y + 1) = y + 1 := by have := hy.out; exact twrap_in _ (by omega) (by omega)
      rw [← hy.out] at HA
      have hyn : Hid (y + 1 = first + ((j + 1 : Nat) : Int)) := show _ = _ by have := hy.out; omega
      have HY : Hid (y + 1 ≤ first + (rl' : Int)) := show _ ≤ _ by have := hy.out; omega
      go_wp2_with fail
      refine (HA.out _ H3.out.fit).mono ?_
      rintro x v2 ⟨rfl,hbv⟩
      have H4 : Hid (LW w v2 (fabO (some ⟨b,off,none⟩) rl rc ea el ec ta tl tc now) (w.heap.size + 1) ⟨cap,first,ra',rl',rc',ca',cl',cc',recs,curs⟩ ta tl ts) := H3.out.under hbv
      clear hbv ct cf H3
      have H5 : Hid (LW w (v2.alloc (.cells #[.int .i64 n1,.int .i64 ((M : Int) + 1),.string n3] 65)) (fabO (some ⟨b,off,none⟩) rl rc ea el ec ta tl tc now) (w.heap.size + 1) ⟨cap,first,ra',rl',rc',ca',cl',cc',recs,curs⟩ ta tl ts) := H4.out.under (fbelow_new _ _)
      obtain ⟨b4,off4,t',hta,et,_,_,g2,_,_,_,_⟩ := txsG_at keeps_tfit H5.out.txs (Below.refl _ _) hMt
      obtain rfl : t = t' := Option.some.inj (het.symm.trans et)
      subst hta
      clear et het
      have hWM : IntKind.i64.wrap (M : Int) = (M : Int) := twrap_in _ (by omega) (by omega)
      have hMi : (M : Int) < (tl : Int) := by omega
      have cf := fun o => fb_cell H5.out.fb.box o
      by_cases h1 : n1 = 1
      · have h1' : (n1 == 1) = true := by rw [beq_iff_eq]; exact h1
        by_cases h2 : t.s = 1
        · have h2' : (t.s == 1) = true := by rw [beq_iff_eq]; exact h2
          have HV : Hid (y = stableR ts ⟨cap,first,ra',rl',rc',ca',cl',cc',recs,curs⟩) := HDY.out (by rw [h1',h2']; rfl)
          clear h1 h2 HDN HDY
          go_wp2
          go_ret
          exact ⟨ret_int HV.out,H5.out.fb.bel⟩
        · have h2' : (t.s == 1) = false := by rw [beq_eq_false_iff_ne]; exact h2
          have HV : Hid _ := HDN.out (by rw [h2',Bool.and_false])
          clear h1 h2 HDN HDY
          go_wp2
          exact ⟨⟨j + 1,y + 1,by omega,by go_num,hyn.out,HV.out,H5.out⟩,by simp [intOf]; have := HY.out; omega⟩
      · have h1' : (n1 == 1) = false := by rw [beq_eq_false_iff_ne]; exact h1
        have HV : Hid _ := HDN.out (by rw [h1',Bool.false_and])
        clear h1 HDN HDY
        go_wp2
        exact ⟨⟨j + 1,y + 1,by omega,by go_num,hyn.out,HV.out,H5.out⟩,by simp [intOf]; have := HY.out; omega⟩
    · have HV : Hid (first + (rl' : Int) = stableR ts ⟨cap,first,ra',rl',rc',ca',cl',cc',recs,curs⟩) := show _ = _ by
        have h1 := noneTo_end hto.out (show recs.length ≤ j by rw [HLEN.out]; omega)
        simp only [stableR,h1,HLEN.out]
      have hji : decide (y < first + (rl' : Int)) = false := decide_eq_false (by have := hy.out; omega)
      go_wp2_with fail
      refine (HE.out _ trivial).mono ?_
      rintro x v4 ⟨rfl,hbv⟩
      have HB : Hid (Below w.heap.size w v4) := below_tr H3.out.fb.bel hbv
      clear hbv
      go_wp2
      go_ret
      exact ⟨ret_int HV.out,HB.out⟩
end Go.Proofs.YtahccighonddaaaGreatDoor
namespace Go.Proofs.YtahccighonddaaaGreatDoor
open Go.RowKit
attribute [local go_sem ↓] Go.wp_at_zero Go.wp_at_succ
set_option linter.unusedSimpArgs false
set_option linter.unusedVariables false
set_option maxRecDepth 100000 in
set_option maxHeartbeats 2000000 in
theorem spec_lcounts (ra : Option Addr) (rl rc : Nat) (ea : Option Addr) (el ec : Nat) (ta : Option Addr) (tl tc : Nat) (now : Int) (rs : List RD) (ts : List TD) (k j : Nat) (r : RD) (w : World) (hR : Rngs w ra rl rs) (hT : Txs w ta tl ts) (hk : rs[k]? = some r) (hfit : ringFitB ts (k : Int) r = true) (hjr : j < r.recs.length) (hrl : rl ≤ 1048576) (htl : tl ≤ 1048576) :
    Calls Tryz.prog 65 #[fabVal ra rl rc ea el ec ta tl tc now,.int .i64 k,.int .i64 (r.first + (j : Int))] w fun e w' => e = .returned (.bool (dataOf ts 2 r.recs[j])) ∧ Below w.heap.size w w' := by
  have hkl : k < rl := by rw [← hR.1]; exact (List.getElem?_eq_some_iff.1 hk).1
  have HT : Hid (Txs w ta tl ts) := hT
  have HF0 : Hid (FB w (w.alloc (fabO ra rl rc ea el ec ta tl tc now)) (fabO ra rl rc ea el ec ta tl tc now)) := fb_new w #[.slice ra rl rc,.slice ea el ec,.slice ta tl tc,.int .i64 now] 31
  obtain ⟨b,off,r',hra,e1,g0,g1,g2,g3,hf⟩ := rngsG_at keeps_fit hR HF0.out.bel hkl
  obtain rfl : r = r' := Option.some.inj (hk.symm.trans e1)
  subst hra
  have HFT : Hid (r.fit (w.alloc (fabO (some ⟨b,off,none⟩) rl rc ea el ec ta tl tc now))) := hf.out
  have hjl : j < r.rl := by rw [← hf.out.str.strs.1]; exact hjr
  obtain ⟨hn1,hn2,hra⟩ := rec_num (fit_right hfit) hjr
  obtain ⟨M,t,hM,het⟩ := fit_txn hfit hjr
  have hD : dataOf ts 2 r.recs[j] = ((recAt r.recs j).1 == 1 && t.s == 2) := by rw [dataOf_at hM het,hra]
  rw [← hra] at hM
  have HA : Hid (∀ w,r.fit w → _) := fun w h => spec_lat (cap := r.cap) (first := r.first) (ca := r.ca) (cl := r.cl) (cc := r.cc) r.recs j w h.str (fun s hs => by have := h.sz s hs; unfold maxLen; omega) hjl hf.out.rle
  obtain ⟨n1,hk1⟩ : ∃ x,(recAt r.recs j).1 = x := ⟨_,rfl⟩
  obtain ⟨n2,hk2⟩ : ∃ x,(recAt r.recs j).2.1 = x := ⟨_,rfl⟩
  obtain ⟨n3,hk3⟩ : ∃ x,(recAt r.recs j).2.2.1 = x := ⟨_,rfl⟩
  rw [hk1,hk2,hk3] at HA
  rw [hk2] at hM
  rw [hk1] at hD
  subst hM
  have HD : Hid (dataOf ts 2 r.recs[j] = (n1 == 1 && t.s == 2)) := hD
  have hMt : M < tl := by rw [← HT.out.1]; exact (List.getElem?_eq_some_iff.1 het).1
  obtain ⟨Q,hQ⟩ : ∃ Q,dataOf ts 2 r.recs[j] = Q := ⟨_,rfl⟩
  rw [hQ] at HD ⊢
  have HET : Hid (ts[M]? = some t) := het
  clear hT hR e1 hk hf hfit hn1 hn2 hra hk1 hk2 hk3 hD het hQ hjr
  go_enter Tryz.func65,Tryz.ntmps65
  go_wp2_with fail
  refine (HA.out _ HFT.out).mono ?_
  rintro x v ⟨rfl,hbv⟩
  have HB : Hid (Below w.heap.size w (v.alloc (.cells #[.int .i64 n1,.int .i64 ((M : Int) + 1),.string n3] 65))) := below_tr (HF0.out.under hbv).bel (fbelow_new _ _)
  have HFB : Hid (FB w (v.alloc (.cells #[.int .i64 n1,.int .i64 ((M : Int) + 1),.string n3] 65)) (fabO (some ⟨b,off,none⟩) rl rc ea el ec ta tl tc now)) := (HF0.out.under hbv).under (fbelow_new _ _)
  clear hbv HF0 HFT HA g0 g1 g2 g3
  obtain ⟨b4,off4,t',hta,et,_,_,g2,_,_,_,_⟩ := txsG_at keeps_tfit (txs_below HT.out HB.out) (Below.refl _ _) hMt
  obtain rfl : t = t' := Option.some.inj (HET.out.symm.trans et)
  subst hta
  clear et HET HT
  have hWM : IntKind.i64.wrap (M : Int) = (M : Int) := twrap_in _ (by omega) (by omega)
  have hMi : (M : Int) < (tl : Int) := by omega
  have cf := fun o => fb_cell HFB.out.box o
  by_cases h1 : n1 = 1
  · have h1' : (n1 == 1) = true := by rw [beq_iff_eq]; exact h1
    clear h1
    go_wp2
    go_ret
    exact ⟨ret_bool (by rw [HD.out,h1',Bool.true_and]),HB.out⟩
  · have h1' : (n1 == 1) = false := by rw [beq_eq_false_iff_ne]; exact h1
    clear h1
    go_wp2
    go_ret
    exact ⟨ret_bool (by rw [HD.out,h1',Bool.false_and]),HB.out⟩
end Go.Proofs.YtahccighonddaaaGreatDoor
