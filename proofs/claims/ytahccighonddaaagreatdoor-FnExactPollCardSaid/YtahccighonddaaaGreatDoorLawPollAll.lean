import Derived.Test.YtahccighonddaaaGreatDoorFabPoll7
import Derived.Test.YtahccighonddaaaGreatDoorSpecHear2
import Derived.Test.YtahccighonddaaaGreatDoorSpecMove
import Derived.Test.YtahccighonddaaaGreatDoorLawCall
import Derived.Laws.Rows
import Derived.Deep.DeepCutAuto
import Derived.Deep.RegionHeld3
import Derived.Deep.DrawnRows
namespace Go.Proofs.YtahccighonddaaaGreatDoor
open Go.RowKit Go.Maps
attribute [local go_sem ↓] Go.wp_at_zero Go.wp_at_succ
set_option linter.unusedSimpArgs false
set_option linter.unusedVariables false
theorem gath_le (p : ByteArray → Bool) (l : List ByteArray) (m : Nat) : ∀ (b : Nat) (acc : List ByteArray),b ≤ (gath p l m b acc).1 ∧ (gath p l m b acc).1 ≤ b + l.length := by
  induction l with
  | nil => exact fun b acc => ⟨Nat.le_refl _,Nat.le_refl _⟩
  | cons s l ih =>
    intro b acc
    unfold gath
    by_cases h : acc.length = m
    · rw [if_pos h]; exact ⟨Nat.le_refl _,Nat.le_add_right _ _⟩
    · rw [if_neg h]
      have h1 := ih (b + 1) (if p s then acc ++ [(readRes s).2.2.1] else acc)
      simp only [List.length_cons]
      omega
theorem hear_x {ts : List TD} {r : RD} {g : Int} {m : Nat} {loose : Bool} (hR : ringRightB r.cap r.first r.recs r.curs = true) (hB : findB g r.curs = true) : hearC0 r g ≤ hearC0 r g + ((hearG ts r g m loose).1 : Int) ∧ hearC0 r g + ((hearG ts r g m loose).1 : Int) ≤ r.first + (r.recs.length : Int) := by
  have h1 := hear_at hR hB
  have h2 := (gath_le (hearP ts loose) (hearRecs ts r g loose) m 0 []).2
  have h3 : (hearRecs ts r g loose).length ≤ r.recs.length - (hearC0 r g - r.first).toNat := by
    unfold hearRecs
    rw [List.length_take,List.length_drop]
    omega
  unfold hearG
  omega
theorem hearM_eq {ts : List TD} {r : RD} {g : Int} {m : Nat} {loose : Bool} (hR : ringRightB r.cap r.first r.recs r.curs = true) (hB : findB g r.curs = true) : hearM ts r g m loose = trimR r.cap r.first r.recs (r.curs.take (findK g r.curs) ++ (g,hearC0 r g + ((hearG ts r g m loose).1 : Int)) :: r.curs.drop (findK g r.curs + 1)) := by
  have h1 := hear_x (ts := ts) (m := m) (loose := loose) hR hB
  unfold hearM moveR
  rw [hR,hB,if_neg (by simp),if_neg (by simp),if_neg]
  unfold hearC0 at h1 ⊢
  omega
theorem hearP_or (ts : List TD) (loose : Bool) (s : ByteArray) : (dataOf ts 2 s || (loose && (readRes s).1 == 1)) = hearP ts loose s := by
  unfold hearP
  cases loose with
  | false => simp
  | true =>
    simp only [Bool.true_and,if_true]
    unfold dataOf
    cases (readRes s).1 == 1 <;> simp
def pollQ (rs : List RD) (es : List Int) (ts : List TD) (now n g most : Int) (loose : Bool) : Except Int FV := if fabRightB rs es ts now then pollR rs es ts now n g most loose else .error 1
def SpAns (w w' : World) (R : Except Int FV) (TX : List ByteArray) (x : Ending) : Prop :=
  match R with
  | .error c => x = .returned (pillV c)
  | .ok F => ∃ (d : FD) (xa : Option Addr) (xc : Nat),x = .returned (pollV d.ra d.rl d.rc d.ea d.el d.ec d.ta d.tl d.tc F.now xa TX.length xc 0) ∧ d.own w' w.heap.size ∧ d.same ⟨F.rs,F.es,F.ts,F.now,0,0⟩ ∧ w'.ownsRow w.heap.size 9 1 (.slice xa TX.length xc) TX.length (TX.map Value.string)
theorem poll_ne : 45 ≠ 63 ∧ 45 ≠ 59 ∧ 45 ≠ 2 ∧ 45 ≠ 9 ∧ 45 ≠ 96 := by decide
structure PR (w wr : World) (o0 o1 : Obj) (Z : Nat) (o2 : Obj) : Prop where
  t : T2 w wr o0 o1
  r : wr.heap[Z]? = some o2
theorem PR.under {w wr wx : World} {o0 o1 o2 : Obj} {Z : Nat} (h : PR w wr o0 o1 Z o2) (hb : Below wr.heap.size wr wx) : PR w wx o0 o1 Z o2 := ⟨h.t.under hb,(hb.block _ (fb_lt h.r)).trans h.r⟩
structure PL (w wr : World) (o0 o1 : Obj) (Z : Nat) (o2 : Obj) (Y : Nat) (d : FD) (now : Int) (acc : List ByteArray) (a : Option Addr) (c : Nat) : Prop where
  p : PR w wr o0 o1 Z o2
  y : wr.heap[Y]? = some (pollO d.ra d.rl d.rc d.ea d.el d.ec d.ta d.tl d.tc now a acc.length c 0)
  x : wr.ownsRow Y 9 1 (.slice a acc.length c) acc.length (acc.map Value.string)
  own : d.own wr w.heap.size
  zy : Z < Y ∧ w.heap.size + 1 < Z
  lr : (∀ X,blk? d.ra = some X → X < Y) ∧ (∀ X,blk? d.ta = some X → X < Y) ∧ (∀ X ∈ fabBlks d.rs d.ts d.ea,X < Y)
section
variable {w wr wx : World} {o0 o1 o2 : Obj} {Z Y : Nat} {d : FD} {now : Int} {acc : List ByteArray} {a : Option Addr} {c : Nat}
theorem PL.under (h : PL w wr o0 o1 Z o2 Y d now acc a c) (hb : Below wr.heap.size wr wx) : PL w wx o0 o1 Z o2 Y d now acc a c :=
  ⟨h.p.under hb,(hb.block _ (fb_lt h.y)).trans h.y,own_below h.x hb,FD.own.below h.own hb,h.zy,h.lr⟩
theorem PL.start (h : PR w wr o0 o1 Z o2) (hd : d.own wr w.heap.size) (hz : w.heap.size + 1 < Z) : PL w (wr.alloc (pollO d.ra d.rl d.rc d.ea d.el d.ec d.ta d.tl d.tc now none 0 0 0)) o0 o1 Z o2 wr.heap.size d now [] none 0 :=
  ⟨h.under (fbelow_new _ _),heap_alloc_new _ _,World.ownsRow_nil _ _ _ _,FD.own.below hd (fbelow_new _ _),⟨fb_lt h.r,hz⟩,fun X hX => (own_blk_lt hd.r hX).2,fun X hX => (own_blk_lt hd.t hX).2,fun X hX => (OwnFab.lt hd hX).2⟩
theorem PL.step {acc' : List ByteArray} {a' : Option Addr} {c' : Nat} (h : PL w wr o0 o1 Z o2 Y d now acc a c) (hg : wr.grownBy wx (Value.slice a acc.length c).ownBlock) (ho : wx.ownsRow Y 9 1 (.slice a' acc'.length c') acc'.length (acc'.map Value.string)) :
    PL w (wx.setCell ⟨Y,4,none⟩ (.slice a' acc'.length c')) o0 o1 Z o2 Y d now acc' a' c' := by
  have hlt : ∀ i,(Value.slice a acc.length c).ownBlock = some i → Y < i := fun i e => by
    have h1 := (h.x.lt i e).1
    rcases Nat.lt_or_ge Y i with h2 | h2
    · exact h2
    · obtain rfl : i = Y := by omega
      have hb : blk? a = some i := by cases a <;> simp_all [Value.ownBlock,blk?]
      exact absurd hb (fun e => own_ne h.x h.y (by decide) e)
  have hYw : wx.heap[Y]? = some (pollO d.ra d.rl d.rc d.ea d.el d.ec d.ta d.tl d.tc now a acc.length c 0) := (hg.block _ (fb_lt h.y) (fun e => by have := hlt Y e.symm; omega)).trans h.y
  have hs := grown_setc wx Y 4 (.slice a' acc'.length c')
  have hYz := h.zy
  refine ⟨⟨(h.p.t.grown hg (fun j e => by have := hlt j e; omega)).grown hs (fun j e => by cases e; omega),?_⟩,?_,own_keep ho hs (.inr (own_ne ho hYw (by decide))),?_,h.zy,h.lr⟩
  · refine (hs.block _ (Nat.lt_of_lt_of_le (fb_lt h.p.r) hg.size) (fun e => by cases e; omega)).trans ((hg.block _ (fb_lt h.p.r) (fun e => by have := hlt Z e.symm; omega)).trans h.p.r)
  · exact heap_setCell_same _ _ _ _ _ _ hYw
  · have hd1 : d.own wx w.heap.size := OwnFab.keep h.own hg ((Classical.em _).imp id fun hn e => ?_) ((Classical.em _).imp id fun hn e => ?_) (fun X hX e => by have h1 := hlt X e; have h2 := h.lr.2.2 X hX; omega)
    · exact OwnFab.box hd1 hYw poll_ne hs
    · cases hr : (Value.slice a acc.length c).ownBlock with
      | none => exact hn hr
      | some i => have h1 := hlt i hr; have h2 := h.lr.1 i (e.trans hr); omega
    · cases hr : (Value.slice a acc.length c).ownBlock with
      | none => exact hn hr
      | some i => have h1 := hlt i hr; have h2 := h.lr.2.1 i (e.trans hr); omega
theorem PL.at (h : PL w wr o0 o1 Z o2 Y d now acc a c) {i : Nat} (e : (Value.slice a acc.length c).ownBlock = some i) : Y < i := by
  have h1 := (h.x.lt i e).1
  rcases Nat.lt_or_ge Y i with h2 | h2
  · exact h2
  · obtain rfl : i = Y := by omega
    have hb : blk? a = some i := by cases a <;> simp_all [Value.ownBlock,blk?]
    exact absurd hb (fun e => own_ne h.x h.y (by decide) e)
theorem PL.yat (h : PL w wr o0 o1 Z o2 Y d now acc a c) (hg : wr.grownBy wx (Value.slice a acc.length c).ownBlock) : wx.heap[Y]? = some (pollO d.ra d.rl d.rc d.ea d.el d.ec d.ta d.tl d.tc now a acc.length c 0) :=
  (hg.block _ (fb_lt h.y) (fun e => by have := h.at e.symm; omega)).trans h.y
theorem app_shape {base n : Nat} {v : Value} {s : ByteArray} (h : wx.ownsRow base 9 1 v (n + 1) (acc.map Value.string ++ [.string s])) (hn : n = acc.length) : ∃ a' c',v = .slice a' (acc ++ [s]).length c' ∧ wx.ownsRow base 9 1 (.slice a' (acc ++ [s]).length c') (acc ++ [s]).length ((acc ++ [s]).map Value.string) := by
  subst hn
  have hmp : (acc ++ [s]).map Value.string = acc.map Value.string ++ [.string s] := by simp
  have hln : (acc ++ [s]).length = acc.length + 1 := by simp
  rw [hmp,hln]
  rcases h.2 with ⟨_,h0⟩ | ⟨g,cap,cur,e,_⟩
  · omega
  · cases e
    exact ⟨_,_,rfl,h⟩
theorem PL.put {tb k L : Nat} {t0 t : RD} (h : PL w wr o0 o1 Z o2 Y d now acc a c) (hra : d.ra = some ⟨tb,0,none⟩) (hk : d.rs[k]? = some t0) (ht : t.own wr L) (hL : Y ≤ L) (hT0 : ∃ C0,o0 = .cells C0 31 (0,0)) (hT1 : ∃ C1,o1 = .cells C1 45 (0,0)) :
    T2 w (set4 wr tb (k * 4) (.int .i64 t.cap) (.int .i64 t.first) (.slice t.ra t.rl t.rc) (.slice t.ca t.cl t.cc)) o0 o1 ∧ (set4 wr tb (k * 4) (.int .i64 t.cap) (.int .i64 t.first) (.slice t.ra t.rl t.rc) (.slice t.ca t.cl t.cc)).heap[Y]? = some (pollO d.ra d.rl d.rc d.ea d.el d.ec d.ta d.tl d.tc now a acc.length c 0) ∧
      (d.setR k t).own (set4 wr tb (k * 4) (.int .i64 t.cap) (.int .i64 t.first) (.slice t.ra t.rl t.rc) (.slice t.ca t.cl t.cc)) w.heap.size ∧ (set4 wr tb (k * 4) (.int .i64 t.cap) (.int .i64 t.first) (.slice t.ra t.rl t.rc) (.slice t.ca t.cl t.cc)).ownsRow w.heap.size 9 1 (.slice a acc.length c) acc.length (acc.map Value.string) := by
  obtain ⟨C0,rfl⟩ := hT0
  obtain ⟨C1,rfl⟩ := hT1
  have hb : blk? d.ra = some tb := by rw [hra]; rfl
  obtain ⟨C,hC⟩ := own_typed h.own.r hb
  have hg := grown_set4 wr tb (k * 4) (.int .i64 t.cap) (.int .i64 t.first) (.slice t.ra t.rl t.rc) (.slice t.ca t.cl t.cc)
  have hz := h.zy
  have n0 : ¬ tb = w.heap.size := fun e => own_ne h.own.r h.p.t.b0 (by decide) (e ▸ hb)
  have n1 : ¬ tb = w.heap.size + 1 := fun e => own_ne h.own.r h.p.t.b1 (by decide) (e ▸ hb)
  have n2 : ¬ tb = Y := fun e => own_ne h.own.r h.y (by decide) (e ▸ hb)
  have nw := (own_blk_lt h.own.r hb).1
  refine ⟨h.p.t.grown hg (fun j e => by cases e; omega),(hg.block _ (fb_lt h.y) (fun e => by cases e; exact n2 rfl)).trans h.y,?_,own_base (own_keep h.x hg (.inr (own_ne h.x hC (by decide)))) (by omega)⟩
  exact FD.own.setR2 h.own hra hk (ht.mono (by omega)) (fun y hy => .inr fun hf => by have h1 := (RD.own.lt ht hy).1; have h2 := h.lr.2.2 y hf; omega)
theorem poll_fin {u : World} {T : Except Int FV} {TX : List ByteArray} {F : FV} (hT : T = .ok F) (hX : TX = acc) (hn : now = F.now) (ht : T2 w u o0 o1) (ho1 : ∃ C1,o1 = .cells C1 45 (0,0)) (hd : d.own u w.heap.size) (hs : d.same ⟨F.rs,F.es,F.ts,F.now,0,0⟩) (hx : u.ownsRow w.heap.size 9 1 (.slice a acc.length c) acc.length (acc.map Value.string)) (v0 v1 v2 v3 v4 v5 : Value) :
    SpAns w (set6 u (w.heap.size + 1) v0 v1 v2 v3 v4 v5) T TX (.returned (pollV d.ra d.rl d.rc d.ea d.el d.ec d.ta d.tl d.tc now a acc.length c 0)) ∧ Below w.heap.size w (set6 u (w.heap.size + 1) v0 v1 v2 v3 v4 v5) := by
  obtain ⟨C1,rfl⟩ := ho1
  subst hT hX hn
  have hg := grown_set6o u (w.heap.size + 1) v0 v1 v2 v3 v4 v5
  exact ⟨⟨d,a,c,rfl,OwnFab.box hd ht.b1 poll_ne hg,hs,own_keep hx hg (.inr (own_ne hx ht.b1 (by decide)))⟩,below_set6o ht.below (by omega) _ _ _ _ _ _⟩
end
end Go.Proofs.YtahccighonddaaaGreatDoor
namespace Go.Proofs.YtahccighonddaaaGreatDoor
open Go.RowKit
set_option linter.unusedSimpArgs false
set_option linter.unusedVariables false
structure TL where
  a : Option Addr
  c : Nat
abbrev TL.own (t : TL) (w : World) (base : Nat) (X : List ByteArray) : Prop := w.ownsRow base 9 1 (.slice t.a X.length t.c) X.length (X.map Value.string)
abbrev FD.pol (d : FD) (t : TL) (X : List ByteArray) (now c : Int) : Value := pollV d.ra d.rl d.rc d.ea d.el d.ec d.ta d.tl d.tc now t.a X.length t.c c
abbrev FD.polB (d : FD) (t : TL) (X : List ByteArray) (now c : Int) : Obj := pollO d.ra d.rl d.rc d.ea d.el d.ec d.ta d.tl d.tc now t.a X.length t.c c
def AnsP (ap : Prop) (w w' : World) (T : FT) (X : List ByteArray) (x : Ending) : Prop := ∃ (d : FD) (t : TL),x = .returned (d.pol t X T.now T.c) ∧ d.own w' w.heap.size ∧ d.same T ∧ t.own w' w.heap.size X ∧ (ap → ∀ Y,d.blk Y → blk? t.a ≠ some Y)
theorem mark_blk {d : FBX} {K X : Nat} (h : (d.mark K).blk X) : d.blk X := by
  have hb : (d.markR K).rs.flatMap RX.blks = d.rs.flatMap RX.blks := flat_map RX.blks _ (mTo_map (f := RX.mark) RX.blks (fun _ _ => rfl) _)
  have hc : ∀ K',(d.markT K').ts.flatMap TXN.blks = d.ts.flatMap TXN.blks := fun K' => flat_map TXN.blks _ (mTo_map (f := TXN.mark) TXN.blks (fun _ _ => rfl) _)
  rcases h with h | h | h
  · exact .inl h
  · exact .inr (.inl h)
  · refine .inr (.inr ?_)
    have e : (d.mark K).in = d.in := by
      show (d.markR K).rs.flatMap RX.blks ++ ((d.markT (K + szSum RX.cnt d.rs + d.el)).ts.flatMap TXN.blks ++ (blk? d.ea).toList) = _
      rw [hb,hc]
      rfl
    rw [← e]
    exact h
set_option maxHeartbeats 1000000 in
theorem law_eqPollD (d d' : FD) (t t' : TL) (X : List ByteArray) (T : FT) (b b' : Nat) (w : World) (h : d.own w b) (h' : d'.own w b') (hs : d.same T) (hs' : d'.same T) (hT : FTSm T) (ht : t.own w b X) (ht' : t'.own w b' X) (hX : X.length ≤ 100) :
    Calls Tryz.prog 20 #[d.pol t X T.now T.c,d'.pol t' X T.now T.c] w fun e w' => e = .returned (.bool true) ∧ Below w.heap.size w w' := by
  have H1 : Hid (d.fin w) := h.fin hs hT
  have H2 : Hid (d'.fin w) := h'.fin hs' hT
  have HR : Hid (d.rs.map RD.strip = d'.rs.map RD.strip) := hs.1.trans hs'.1.symm
  have HT : Hid (d.ts.map TD.strip = d'.ts.map TD.strip) := hs.2.2.trans hs'.2.2.symm
  have HE : Hid (d'.es = d.es) := hs'.2.1.trans hs.2.1.symm
  obtain ⟨l1,l2,l3⟩ := h.lens
  obtain ⟨m1,m2,m3⟩ := h'.lens
  have e1 := congrArg List.length HR.out
  have e3 := congrArg List.length HT.out
  have e2 := congrArg List.length HE.out
  simp only [List.length_map] at e1 e3
  have HTX : Hid (t.own w b X) := ht
  have HTX' : Hid (t'.own w b' X) := ht'
  obtain ⟨nw,hnw⟩ : ∃ x,T.now = x := ⟨_,rfl⟩
  obtain ⟨cc,hcc⟩ : ∃ x,T.c = x := ⟨_,rfl⟩
  rw [hnw,hcc]
  have ec : (cc != cc) = false := by simp
  clear hs hs' hT h h' hnw hcc ht ht'
  obtain ⟨ra,rl,rc,ea,el,ec',ta,tl,tc,rs,es,ts⟩ := d
  obtain ⟨ra',rl',rc',ea',el',ec'',ta',tl',tc',rs',es',ts'⟩ := d'
  simp only [] at l1 l2 l3 m1 m2 m3 e1 e2 e3
  have k1 : rl' = rl := by omega
  have k2 : el' = el := by omega
  have k3 : tl' = tl := by omega
  have k4 : es' = es := HE.out
  subst k1 k2 k3 k4
  have HB0 : Hid (Below w.heap.size w ((w.alloc (pollO ra rl' rc ea el' ec' ta tl' tc nw t.a X.length t.c cc)).alloc (pollO ra' rl' rc' ea' el' ec'' ta' tl' tc' nw t'.a X.length t'.c cc))) := ((Below.refl _ _).alloc (Nat.le_refl _) _).alloc (by simp) _
  go_enter Tryz.func20,Tryz.ntmps20
  go_wp2_with fail
  refine (law_eqFabF ra rl' rc ea el' ec' ta tl' tc ra' rc' ea' ec'' ta' tc' nw rs rs' es' ts ts' _ (FIn.below H1.out HB0.out) (FIn.below H2.out HB0.out) HR.out HT.out).mono ?_
  rintro e w1 ⟨rfl,hb1⟩
  have HB1 : Hid (Below w.heap.size w w1) := below_tr HB0.out hb1
  have hc1 := fun o => hb1.cell (p := ⟨w.heap.size,o,none⟩) (by simp only [World.size_alloc]; omega)
  have hc2 := fun o => hb1.cell (p := ⟨w.heap.size + 1,o,none⟩) (by simp only [World.size_alloc]; omega)
  have hs1 : w.heap.size + 1 < w1.heap.size := by have h := hb1.size; simp only [World.size_alloc] at h; omega
  clear hb1
  go_wp2_with fail
  refine (law_eqStrs t.a t'.a X.length t.c t'.c X _ (own_strs (own_below HTX.out HB1.out)) (own_strs (own_below HTX'.out HB1.out)) (by omega)).mono ?_
  rintro e w2 ⟨rfl,hb2⟩
  have HB2 : Hid (Below w.heap.size w w2) := below_tr HB1.out hb2
  have ca := fun o => (hb2.cell (p := ⟨w.heap.size,o,none⟩) (by show w.heap.size < _; omega)).trans (hc1 o)
  have cb := fun o => (hb2.cell (p := ⟨w.heap.size + 1,o,none⟩) hs1).trans (hc2 o)
  clear hb2 hc1 hc2
  go_wp2
  go_ret
  exact ⟨rfl,HB2.out⟩
set_option maxHeartbeats 1000000 in
theorem law_markPollD (d : FD) (t : TL) (X : List ByteArray) (now c : Int) (base : Nat) (w : World) (h : d.own w base) (hm : d.x.cnt ≤ 50000000) (ht : t.own w base X) (hX : X.length ≤ 100) (hap : ∀ Y,d.blk Y → blk? t.a ≠ some Y) :
    Calls Tryz.prog 21 #[d.pol t X now c,.int .i64 1] w fun e w' => e = .returned (.int .i64 ((1 + d.x.cnt + X.length : Nat) : Int)) ∧ (d.x.mark 1).own w' base ∧ w'.ownsRow base 9 1 (.slice t.a X.length t.c) X.length (mStr (1 + d.x.cnt) (X.map Value.string) X.length) ∧ Fr (fun Y => d.blk Y ∨ blk? t.a = some Y) w w' := by
  have HD : Hid (d.own w base) := h
  have HT : Hid (t.own w base X) := ht
  have HAP : Hid (∀ Y,d.blk Y → blk? t.a ≠ some Y) := hap
  have HBX : Hid ((w.alloc (d.polB t X now c)).heap[w.heap.size]? = some (d.polB t X now c)) := heap_alloc_new _ _
  have HNB : Hid (¬ d.blk w.heap.size) := fun e => by have := (FD.own.lt h e).2; omega
  clear h ht hap
  go_enter Tryz.func21,Tryz.ntmps21
  go_wp2_with fail
  refine (law_markFabX d.x now base 1 _ (FD.own.below HD.out (fbelow_new _ _)).fx (by omega) (by omega)).mono ?_
  rintro e w1 ⟨rfl,ho1,hf1⟩
  have HO1 : Hid ((d.x.mark 1).own w1 base) := ho1
  have HF1 : Hid (Fr d.blk w w1) := (Fr.ofBelow (fbelow_new _ _) _).trans hf1
  have HT1 : Hid (t.own w1 base X) := hf1.own (own_below HT.out (fbelow_new _ _)) fun Y hY hd => HAP.out Y hd hY
  have HBX1 : Hid (w1.heap[w.heap.size]? = some (d.polB t X now c)) := hf1.blk HBX.out HNB.out
  have c1 := fun o => fb_cell HBX1.out o
  obtain ⟨C,hC⟩ : ∃ C,d.x.cnt = C := ⟨_,rfl⟩
  have HC : Hid (d.x.cnt = C) := hC
  rw [hC] at hm ⊢
  clear ho1 hf1 HBX HNB hC
  go_wp2_with fail
  refine (law_markStrs t.a X.length t.c base (X.map Value.string) (1 + C) w1 HT1.out (by omega) (by omega)).mono ?_
  rintro e w2 ⟨rfl,ho2,hg2⟩
  have HO2 : Hid _ := ho2
  have hsb : ∀ Y,(Value.slice t.a X.length t.c).ownBlock = some Y → blk? t.a = some Y := fun Y e => by
    cases ha : t.a <;> simp_all [Value.ownBlock,blk?]
  have HF2 : Hid (Fr (fun Y => blk? t.a = some Y) w1 w2) := Fr.ofGrown hg2 hsb
  have HO : Hid ((d.x.mark 1).own w2 base) := HO1.out.fr HF2.out fun Y hY e => HAP.out Y (mark_blk hY) e
  clear ho2 hg2 hsb
  go_wp2
  go_ret
  exact ⟨ret_int (by have := HC.out; omega),HO.out,by rw [HC.out]; exact HO2.out,(HF1.out.mono fun Y h => .inl h).trans (HF2.out.mono fun Y h => .inr h)⟩
set_option maxHeartbeats 1000000 in
theorem law_heldPollD (d : FD) (t : TL) (X : List ByteArray) (now c : Int) (base : Nat) (w : World) (h : (d.x.mark 1).own w base) (hm : d.x.cnt ≤ 50000000) (ht : w.ownsRow base 9 1 (.slice t.a X.length t.c) X.length (mStr (1 + d.x.cnt) (X.map Value.string) X.length)) (hX : X.length ≤ 100) :
    Calls Tryz.prog 22 #[d.pol t X now c,.int .i64 1] w fun e w' => e = .returned (.int .i64 ((1 + d.x.cnt + X.length : Nat) : Int)) ∧ Below w.heap.size w w' := by
  have HD : Hid ((d.x.mark 1).own w base) := h
  have HT : Hid _ := ht
  have HBX : Hid ((w.alloc (d.polB t X now c)).heap[w.heap.size]? = some (d.polB t X now c)) := heap_alloc_new _ _
  clear h ht
  go_enter Tryz.func22,Tryz.ntmps22
  go_wp2_with fail
  refine (law_heldFabX d.x now base 1 _ (HD.out.below (fbelow_new _ _)) (by omega) (by omega)).mono ?_
  rintro e w1 ⟨rfl,hb1⟩
  have H1 : Hid (Below w.heap.size w w1) := below_tr (fbelow_new _ _) hb1
  have HBX1 : Hid (w1.heap[w.heap.size]? = some (d.polB t X now c)) := (hb1.block _ (fb_lt HBX.out)).trans HBX.out
  have c1 := fun o => fb_cell HBX1.out o
  obtain ⟨C,hC⟩ : ∃ C,d.x.cnt = C := ⟨_,rfl⟩
  have HC : Hid (d.x.cnt = C) := hC
  rw [hC] at hm HT ⊢
  have hk : ¬ (((1 + C : Nat) : Int) < 0) := by omega
  clear hb1 HBX hC
  go_wp2_with fail
  refine (law_heldStrs t.a X.length t.c base (X.map Value.string) (1 + C) w1 (own_below HT.out H1.out) (by simp) (by omega) (by omega)).mono ?_
  rintro e w2 ⟨rfl,hb2⟩
  have H2 : Hid (Below w.heap.size w w2) := below_tr H1.out hb2
  have hk2 : ¬ (((1 + C + X.length : Nat) : Int) < 0) := by omega
  clear hb2 c1
  go_wp2
  go_ret
  exact ⟨ret_int (by have := HC.out; omega),H2.out⟩
structure TB (u : World) (lo hi : Nat) (t : TL) (X : List ByteArray) : Prop where
  own : t.own u lo X
  lt : ∀ Y,blk? t.a = some Y → Y < hi
theorem TB.below {u v : World} {lo hi : Nat} {t : TL} {X : List ByteArray} (h : TB u lo hi t X) (hb : Below u.heap.size u v) : TB v lo hi t X := ⟨own_below h.own hb,h.lt⟩
theorem TB.fr {u v : World} {lo hi : Nat} {t : TL} {X : List ByteArray} {S : Nat → Prop} (h : TB u lo hi t X) (hf : Fr S u v) (hs : ∀ Y,S Y → Y < lo ∨ hi ≤ Y) : TB v lo hi t X :=
  ⟨hf.own h.own fun Y hY e => by have h1 := hs Y e; have h2 := (own_blk_lt h.own hY).1; have h3 := h.lt Y hY; omega,h.lt⟩
theorem tb_new {u : World} {lo : Nat} {t : TL} {X : List ByteArray} (h : t.own u lo X) (C : Array Value) (T : TypeId) : TB (u.alloc (.cells C T)) lo u.heap.size t X := ⟨own_below h (fbelow_new _ _),fun Y hY => (own_blk_lt h hY).2⟩
structure Q1 (w u : World) (oA : Obj) (lB iB : Nat) (oB : Obj) (dB : FD) (tB : TL) (X : List ByteArray) : Prop where
  s : S1 w u oA lB iB oB dB
  hB : TB u lB iB tB X
theorem Q1.below {w u v : World} {oA oB : Obj} {lB iB : Nat} {dB : FD} {tB : TL} {X : List ByteArray} (h : Q1 w u oA lB iB oB dB tB X) (hb : Below u.heap.size u v) : Q1 w v oA lB iB oB dB tB X := ⟨h.s.below hb,h.hB.below hb⟩
structure Q2 (w u : World) (oA : Obj) (lB iB : Nat) (oB : Obj) (dB : FD) (lX iX : Nat) (oX : Obj) (dX : FD) (tB : TL) (X : List ByteArray) : Prop where
  s : S2 w u oA lB iB oB dB lX iX oX dX
  hB : TB u lB iB tB X
theorem Q2.below {w u v : World} {oA oB oX : Obj} {lB iB lX iX : Nat} {dB dX : FD} {tB : TL} {X : List ByteArray} (h : Q2 w u oA lB iB oB dB lX iX oX dX tB X) (hb : Below u.heap.size u v) : Q2 w v oA lB iB oB dB lX iX oX dX tB X := ⟨h.s.below hb,h.hB.below hb⟩
structure Q3 (w u : World) (oA : Obj) (lB iB : Nat) (oB : Obj) (dB : FD) (lX iX : Nat) (oX : Obj) (dX : FD) (lG iG : Nat) (oG : Obj) (dG : FD) (tB tG : TL) (X : List ByteArray) : Prop where
  s : S3 w u oA lB iB oB dB lX iX oX dX lG iG oG dG
  hB : TB u lB iB tB X
  hG : TB u lG iG tG X
  ap : ∀ Y,dG.blk Y → blk? tG.a ≠ some Y
theorem Q3.below {w u v : World} {oA oB oX oG : Obj} {lB iB lX iX lG iG : Nat} {dB dX dG : FD} {tB tG : TL} {X : List ByteArray} (h : Q3 w u oA lB iB oB dB lX iX oX dX lG iG oG dG tB tG X) (hb : Below u.heap.size u v) : Q3 w v oA lB iB oB dB lX iX oX dX lG iG oG dG tB tG X := ⟨h.s.below hb,h.hB.below hb,h.hG.below hb,h.ap⟩
structure Q4 (w u : World) (oA : Obj) (lB iB : Nat) (oB : Obj) (dB : FD) (lG iG : Nat) (oG : Obj) (dG : FD) (tB tG : TL) (X : List ByteArray) : Prop where
  s : S4 w u oA lB iB oB dB lG iG oG dG
  hB : TB u lB iB tB X
  hG : TB u lG iG tG X
  ap : ∀ Y,dG.blk Y → blk? tG.a ≠ some Y
theorem Q4.below {w u v : World} {oA oB oG : Obj} {lB iB lG iG : Nat} {dB dG : FD} {tB tG : TL} {X : List ByteArray} (h : Q4 w u oA lB iB oB dB lG iG oG dG tB tG X) (hb : Below u.heap.size u v) : Q4 w v oA lB iB oB dB lG iG oG dG tB tG X := ⟨h.s.below hb,h.hB.below hb,h.hG.below hb,h.ap⟩
theorem Q3.mark {w u v : World} {oA oB oX oG : Obj} {lB iB lX iX lG iG : Nat} {dB dX dG : FD} {tB tG : TL} {X : List ByteArray} (h : Q3 w u oA lB iB oB dB lX iX oX dX lG iG oG dG tB tG X) (hf : Fr dX.blk u v) : Q4 w v oA lB iB oB dB lG iG oG dG tB tG X := by
  have hx : ∀ X,dX.blk X → lX ≤ X ∧ X < iX := fun X hX => ⟨(h.s.s.X.own.lt hX).1,h.s.s.X.lt X hX⟩
  have h2 := h.s.s.o2
  have h3 := h.s.o3
  exact ⟨h.s.mark hf,h.hB.fr hf (fun Y e => by have := hx Y e; omega),h.hG.fr hf (fun Y e => by have := hx Y e; omega),h.ap⟩
structure Q5 (w u : World) (oA : Obj) (lB iB : Nat) (oB : Obj) (dB : FD) (lG iG : Nat) (oG : Obj) (dG : FBX) (tB tG : TL) (X : List ByteArray) (N : Nat) : Prop where
  s : S5 w u oA lB iB oB dB lG iG oG dG
  hB : TB u lB iB tB X
  hG : u.ownsRow lG 9 1 (.slice tG.a X.length tG.c) X.length (mStr (1 + N) (X.map Value.string) X.length)
theorem Q5.below {w u v : World} {oA oB oG : Obj} {lB iB lG iG : Nat} {dB : FD} {dG : FBX} {tB tG : TL} {X : List ByteArray} {N : Nat} (h : Q5 w u oA lB iB oB dB lG iG oG dG tB tG X N) (hb : Below u.heap.size u v) : Q5 w v oA lB iB oB dB lG iG oG dG tB tG X N := ⟨h.s.below hb,h.hB.below hb,own_below h.hG hb⟩
theorem Q4.mark {w u v : World} {oA oB oG : Obj} {lB iB lG iG : Nat} {dB dG : FD} {m : FBX} {tB tG : TL} {X : List ByteArray} {N : Nat} (h : Q4 w u oA lB iB oB dB lG iG oG dG tB tG X) (hf : Fr (fun Y => dG.blk Y ∨ blk? tG.a = some Y) u v) (ho : m.own v lG) (hm : v.ownsRow lG 9 1 (.slice tG.a X.length tG.c) X.length (mStr (1 + N) (X.map Value.string) X.length)) : Q5 w v oA lB iB oB dB lG iG oG m tB tG X N := by
  have hx : ∀ Y,(dG.blk Y ∨ blk? tG.a = some Y) → lG ≤ Y ∧ Y < iG := fun Y hY => hY.elim (fun hY => ⟨(h.s.G.own.lt hY).1,h.s.G.lt Y hY⟩) fun hY => ⟨(own_blk_lt h.hG.own hY).1,h.hG.lt Y hY⟩
  have h1 := h.s.s.o1
  have h3 := h.s.o3
  have h5 := h.s.s.B.le
  exact ⟨⟨⟨hf.blk h.s.s.a (fun e => by have := hx _ e; omega),h.s.s.B.fr hf (fun X e => by have := hx X e; omega),h1,Fr.below h.s.s.bel (Nat.le_of_lt (fb_lt h.s.s.a)) hf fun X e => by have := hx X e; omega⟩,hf.blk h.s.G.b (fun e => by have := hx _ e; omega),ho⟩,h.hB.fr hf (fun Y e => by have := hx Y e; omega),hm⟩
theorem AnsP.like {ap : Prop} {w w' : World} {T T' : FT} {X X' : List ByteArray} {x : Ending} (h : AnsP ap w w' T' X' x) (e : T'.strip = T.strip) (hX : X' = X) : AnsP ap w w' T X x := by
  subst hX
  obtain ⟨d,t,hx,ho,⟨h1,h2,h3⟩,ht,ha⟩ := h
  simp only [FT.strip,FT.mk.injEq] at e
  obtain ⟨e1,e2,e3,e4,e5,e6⟩ := e
  exact ⟨d,t,by rw [← e4,← e6]; exact hx,ho,⟨h1.trans e1,h2.trans e2,h3.trans e3⟩,ht,ha⟩
end Go.Proofs.YtahccighonddaaaGreatDoor
namespace Go.Proofs.YtahccighonddaaaGreatDoor
open Go.RowKit
set_option linter.unusedSimpArgs false
set_option linter.unusedVariables false
set_option maxRecDepth 100000 in
set_option maxHeartbeats 4000000 in
theorem law_Poll_of (Pre : World → Prop) (hPre : ∀ u v,Below u.heap.size u v → Pre u → Pre v) (Tf : List RD → List Int → List TD → FT) (Xf : List RD → List Int → List TD → List ByteArray) (now : Int) (n : Int) (g : Int) (most : Int) (loose : Bool)
    (HS : ∀ (d : FD) (w : World),d.fin w → d.nils → Pre w → Calls Tryz.prog 18 #[d.val now,.int .i64 n,.int .i64 g,.int .i64 most,.bool loose] w fun x w' => AnsP False w w' (Tf d.rs d.es d.ts) (Xf d.rs d.es d.ts) x ∧ Below w.heap.size w w')
    (HI : ∀ (d : FD) (w : World),d.fin w → d.nils → Pre w → Calls Tryz.prog 19 #[d.val now,.int .i64 n,.int .i64 g,.int .i64 most,.bool loose] w fun x w' => AnsP True w w' (Tf d.rs d.es d.ts) (Xf d.rs d.es d.ts) x ∧ Below w.heap.size w w')
    (hT : ∀ (rs rs' : List RD) (es : List Int) (ts ts' : List TD),rs'.map RD.strip = rs.map RD.strip → ts'.map TD.strip = ts.map TD.strip → (Tf rs' es ts').strip = (Tf rs es ts).strip ∧ Xf rs' es ts' = Xf rs es ts) (hXl : ∀ rs es ts,(Xf rs es ts).length ≤ 100)
    (ra : Option Addr) (rl rc : Nat) (ea : Option Addr) (el ec : Nat) (ta : Option Addr) (tl tc : Nat) (rs : List RD) (es : List Int) (ts : List TD) (w : World) (hi : LFIn w ra rl ea el ta tl rs es ts) (hp : Pre w) (hsm : FSmall rl el tl rs ts → FTSm (Tf rs es ts)) :
    Calls Tryz.prog 5 #[fabVal ra rl rc ea el ec ta tl tc now,.int .i64 n,.int .i64 g,.int .i64 most,.bool loose] w fun x w' => x = .returned (.bool true) ∧ Below w.heap.size w w' := by
  have HPR : Hid (∀ u v,Below u.heap.size u v → Pre u → Pre v) := hPre
  have HP : Hid (Pre w) := hp
  have HL : Hid (LFIn w ra rl ea el ta tl rs es ts) := hi
  have HTS0 : Hid (FSmall rl el tl rs ts → FTSm (Tf rs es ts)) := hsm
  obtain ⟨T,hTT⟩ : ∃ T,Tf rs es ts = T := ⟨_,rfl⟩
  obtain ⟨X,hXX⟩ : ∃ X,Xf rs es ts = X := ⟨_,rfl⟩
  have HXL : Hid (X.length ≤ 100) := show _ ≤ _ by rw [← hXX]; exact hXl rs es ts
  have HSP : Hid (∀ (d : FD) (w : World),d.fin w → d.nils → Pre w → ArgD d rl el tl rs es ts → Calls Tryz.prog 18 #[d.val now,.int .i64 n,.int .i64 g,.int .i64 most,.bool loose] w fun x w' => AnsP False w w' T X x ∧ Below w.heap.size w w') := fun d w h1 h2 h3 h4 => (HS d w h1 h2 h3).mono fun x w' h => ⟨h.1.like (by rw [← hTT,h4.e]; exact (hT rs d.rs es ts d.ts h4.r h4.t).1) (by rw [← hXX,h4.e]; exact (hT rs d.rs es ts d.ts h4.r h4.t).2),h.2⟩
  have HIM : Hid (∀ (d : FD) (w : World),d.fin w → d.nils → Pre w → ArgD d rl el tl rs es ts → Calls Tryz.prog 19 #[d.val now,.int .i64 n,.int .i64 g,.int .i64 most,.bool loose] w fun x w' => AnsP True w w' T X x ∧ Below w.heap.size w w') := fun d w h1 h2 h3 h4 => (HI d w h1 h2 h3).mono fun x w' h => ⟨h.1.like (by rw [← hTT,h4.e]; exact (hT rs d.rs es ts d.ts h4.r h4.t).1) (by rw [← hXX,h4.e]; exact (hT rs d.rs es ts d.ts h4.r h4.t).2),h.2⟩
  rw [hTT] at HTS0
  obtain ⟨Trs,Tes,Tts,Tw,Tn,Tc⟩ := T
  clear HS HI hPre hp hi hsm hT hTT hXX hXl
  have H0 : Hid (FB w (w.alloc (lfabO ra rl rc ea el ec ta tl tc now)) (lfabO ra rl rc ea el ec ta tl tc now)) := fb_new _ _ _
  go_enter Tryz.func5,Tryz.ntmps5
  go_wp2_with fail
  refine (law_szFabT ra rl rc ea el ec ta tl tc now rs es ts _ (HL.out.below H0.out.bel)).mono ?_
  rintro x v1 ⟨z,rfl,hz,hb1⟩
  have H1 : Hid (FB w v1 (lfabO ra rl rc ea el ec ta tl tc now)) := H0.out.under hb1
  clear hb1 H0
  have c1 := fun o => fb_cell H1.out.box o
  rcases hz.out with rfl | ⟨y,rfl,hy,hsz⟩
  · go_wp2
    go_ret
    exact ⟨rfl,H1.out.bel⟩
  have HZ : Hid (fabSz rl el tl rs ts ≤ 1048576) := hsz
  have HSM : Hid (FSmall rl el tl rs ts) := fabSz_small hsz
  have HTS : Hid (FTSm ⟨Trs,Tes,Tts,Tw,Tn,Tc⟩) := HTS0.out HSM.out
  clear hsz hz HTS0
  go_wp2_with fail
  refine (law_toFabO ra rl rc ea el ec ta tl tc now rs es ts _ (HL.out.below H1.out.bel) HSM.out).mono ?_
  rintro x v2 ⟨d2,rfl,ho2,hz2,hs2,hf2,hn2,hb2⟩
  have HA2 : Hid (ArgD d2 rl el tl rs es ts) := ⟨hz2.out.1,hz2.out.2.1,hz2.out.2.2.1,hz2.out.2.2.2.1,hz2.out.2.2.2.2,hs2.out.1,hs2.out.2.1,hs2.out.2.2⟩
  have H2 : Hid (FB w v2 (lfabO ra rl rc ea el ec ta tl tc now)) := H1.out.under hb2
  have HW2 : Hid (w.heap.size < v2.heap.size) := fb_lt H2.out.box
  clear hb2 H1 c1 ho2 hz2 hs2
  go_wp2_with fail
  refine (HSP.out d2 _ hf2.out hn2.out (HPR.out _ _ H2.out.bel HP.out) HA2.out).mono ?_
  rintro x v3 ⟨⟨dB,tB,rfl,hoB,hsB,htB,_⟩,hb3⟩
  obtain ⟨iB,hiB⟩ : ∃ iB,v3.heap.size = iB := ⟨_,rfl⟩
  obtain ⟨lB,hlB⟩ : ∃ lB,v2.heap.size = lB := ⟨_,rfl⟩
  have HSB : Hid (dB.same ⟨Trs,Tes,Tts,Tw,Tn,Tc⟩) := hsB
  have K3 : Hid (Q1 w (v3.alloc (dB.polB tB X Tw Tc)) (lfabO ra rl rc ea el ec ta tl tc now) lB iB (dB.polB tB X Tw Tc) dB tB X) := by
    subst hiB
    subst hlB
    exact ⟨⟨((fbelow_new _ _).block _ (fb_lt (H2.out.under hb3).box)).trans (H2.out.under hb3).box,bx_new hoB hb3.size _,HW2.out,below_tr (H2.out.under hb3).bel (fbelow_new _ _)⟩,tb_new htB _ _⟩
  have HI3 : Hid (iB + 1 = (v3.alloc (dB.polB tB X Tw Tc)).heap.size) := show _ = _ by simp [hiB]
  clear hb3 H2 hoB hsB htB hf2 hn2 HA2 HW2 hlB HSP
  have cA := fun o => fb_cell K3.out.s.a o
  have cB := fun o => fb_cell K3.out.s.B.b o
  go_wp2_with fail
  clear hiB
  obtain ⟨V3,hV3⟩ : ∃ V,v3.alloc (dB.polB tB X Tw Tc) = V := ⟨_,rfl⟩
  rw [hV3] at K3 HI3 cA cB ⊢
  clear hV3 v3
  refine (law_toFabO ra rl rc ea el ec ta tl tc now rs es ts _ (HL.out.below K3.out.s.bel) HSM.out).mono ?_
  rintro x v4 ⟨dX,rfl,hoX,hzX,hsX,hfX,hnX,hb4⟩
  have HAX : Hid (ArgD dX rl el tl rs es ts) := ⟨hzX.out.1,hzX.out.2.1,hzX.out.2.2.1,hzX.out.2.2.2.1,hzX.out.2.2.2.2,hsX.out.1,hsX.out.2.1,hsX.out.2.2⟩
  obtain ⟨iX,hiX⟩ : ∃ iX,v4.heap.size = iX := ⟨_,rfl⟩
  obtain ⟨lX,hlX⟩ : ∃ lX,V3.heap.size = lX := ⟨_,rfl⟩
  have K4 : Hid (Q2 w (v4.alloc (dX.valB now)) (lfabO ra rl rc ea el ec ta tl tc now) lB iB (dB.polB tB X Tw Tc) dB lX iX (dX.valB now) dX tB X) := by
    subst hiX
    subst hlX
    exact ⟨⟨((K3.out.below hb4).below (fbelow_new _ _)).s,bx_new hoX.out hb4.size _,by have := HI3.out; omega⟩,((K3.out.below hb4).below (fbelow_new _ _)).hB⟩
  have HFX : Hid (dX.fin (v4.alloc (dX.valB now))) := hfX.out.below (fbelow_new _ _)
  have HI4 : Hid (iX + 1 = (v4.alloc (dX.valB now)).heap.size) := show _ = _ by simp [hiX]
  clear hb4 K3 hoX hzX hsX hfX hlX HI3 cA cB
  have cA := fun o => fb_cell K4.out.s.s.a o
  have cB := fun o => fb_cell K4.out.s.s.B.b o
  have cX := fun o => fb_cell K4.out.s.X.b o
  go_wp2_with fail
  clear hiX
  obtain ⟨V4,hV4⟩ : ∃ V,v4.alloc (dX.valB now) = V := ⟨_,rfl⟩
  rw [hV4] at K4 HI4 HFX cA cB cX ⊢
  clear hV4 v4
  refine (HIM.out dX _ HFX.out hnX.out (HPR.out _ _ K4.out.s.s.bel HP.out) HAX.out).mono ?_
  rintro x v5 ⟨⟨dG,tG,rfl,hoG,hsG,htG,hap⟩,hb5⟩
  have HSG : Hid (dG.same ⟨Trs,Tes,Tts,Tw,Tn,Tc⟩) := hsG
  obtain ⟨iG,hiG⟩ : ∃ iG,v5.heap.size = iG := ⟨_,rfl⟩
  obtain ⟨lG,hlG⟩ : ∃ lG,V4.heap.size = lG := ⟨_,rfl⟩
  have K5 : Hid (Q3 w (v5.alloc (dG.polB tG X Tw Tc)) (lfabO ra rl rc ea el ec ta tl tc now) lB iB (dB.polB tB X Tw Tc) dB lX iX (dX.valB now) dX lG iG (dG.polB tG X Tw Tc) dG tB tG X) := by
    subst hiG
    subst hlG
    exact ⟨⟨((K4.out.below hb5).below (fbelow_new _ _)).s,bx_new hoG hb5.size _,by have := HI4.out; omega⟩,((K4.out.below hb5).below (fbelow_new _ _)).hB,tb_new htG _ _,hap trivial⟩
  have HFX5 : Hid (dX.fin (v5.alloc (dG.polB tG X Tw Tc))) := (HFX.out.below hb5).below (fbelow_new _ _)
  clear hb5 K4 hoG hsG htG hap HFX hnX hlG HI4 cA cB cX
  have cA := fun o => fb_cell K5.out.s.s.s.a o
  have cB := fun o => fb_cell K5.out.s.s.s.B.b o
  have cX := fun o => fb_cell K5.out.s.s.X.b o
  have cG := fun o => fb_cell K5.out.s.G.b o
  go_wp2_with fail
  clear hiG
  obtain ⟨V5,hV5⟩ : ∃ V,v5.alloc (dG.polB tG X Tw Tc) = V := ⟨_,rfl⟩
  rw [hV5] at K5 HFX5 cA cB cX cG ⊢
  clear hV5 v5
  refine (law_eqPollD dG dB tG tB X ⟨Trs,Tes,Tts,Tw,Tn,Tc⟩ _ _ _ K5.out.s.G.own K5.out.s.s.s.B.own HSG.out HSB.out HTS.out K5.out.hG.own K5.out.hB.own HXL.out).mono ?_
  rintro x v6 ⟨rfl,hb6⟩
  have K6 : Hid (Q3 w v6 (lfabO ra rl rc ea el ec ta tl tc now) lB iB (dB.polB tB X Tw Tc) dB lX iX (dX.valB now) dX lG iG (dG.polB tG X Tw Tc) dG tB tG X) := K5.out.below hb6
  have HFX6 : Hid (dX.fin v6) := HFX5.out.below hb6
  clear hb6 K5 HFX5 cA cB cX cG
  have cA := fun o => fb_cell K6.out.s.s.s.a o
  have cX := fun o => fb_cell K6.out.s.s.X.b o
  go_upto_region 10 with fail
  go_cut [47] (fun t wc => t = .bool false ∧ Hid (Q3 w wc (lfabO ra rl rc ea el ec ta tl tc now) lB iB (dB.polB tB X Tw Tc) dB lX iX (dX.valB now) dX lG iG (dG.polB tG X Tw Tc) dG tB tG X))
  case first =>
    go_region_with (first
      | (go_at_call 9; refine (law_toFabO ra rl rc ea el ec ta tl tc now rs es ts _ (HL.out.below K6.out.s.s.s.bel.drew) HSM.out).mono ?_; rintro x v7 ⟨d7,rfl,ho7,hz7,hs7,hf7,hn7,hb7⟩; have HA7 : Hid (ArgD d7 rl el tl rs es ts) := ⟨hz7.out.1,hz7.out.2.1,hz7.out.2.2.1,hz7.out.2.2.2.1,hz7.out.2.2.2.2,hs7.out.1,hs7.out.2.1,hs7.out.2.2⟩; have K7 : Hid (Q3 w v7 (lfabO ra rl rc ea el ec ta tl tc now) lB iB (dB.polB tB X Tw Tc) dB lX iX (dX.valB now) dX lG iG (dG.polB tG X Tw Tc) dG tB tG X) := K6.out.below (below_tr ((Below.refl _ _).drew) hb7); have HFX7 : Hid (dX.fin v7) := HFX6.out.below (below_tr ((Below.refl _ _).drew) hb7); have cX7 := fun o => fb_cell K7.out.s.s.X.b o; clear hb7 ho7 hz7 hs7 hn7)
      | (go_at_call 12; refine (law_eqD dX d7 now rl el tl rs es ts _ HFX7.out hf7.out HAX.out HA7.out).mono ?_; rintro x v8 ⟨rfl,hb8⟩; have K8 : Hid (Q3 w v8 (lfabO ra rl rc ea el ec ta tl tc now) lB iB (dB.polB tB X Tw Tc) dB lX iX (dX.valB now) dX lG iG (dG.polB tG X Tw Tc) dG tB tG X) := K7.out.below hb8; clear hb8))
    all_goals (go_wp2_with fail; go_meet; exact ⟨rfl,K8⟩)
  case rest =>
  obtain ⟨rfl,K8⟩ := hcut
  have HCX : Hid (dX.x.cnt ≤ 50000000) := FD.own.fewX K8.out.s.s.X.own HAX.out HZ.out
  have HCG : Hid (dG.x.cnt ≤ 50000000) := FD.own.few K8.out.s.G.own HSG.out HTS.out
  clear K6 HFX6 cA cX
  have cX := fun o => fb_cell K8.out.s.s.X.b o
  go_wp2_with fail
  refine (law_markFabD dX now _ _ K8.out.s.s.X.own HCX.out).mono ?_
  rintro x v9 ⟨rfl,hf9⟩
  have K9 : Hid (Q4 w v9 (lfabO ra rl rc ea el ec ta tl tc now) lB iB (dB.polB tB X Tw Tc) dB lG iG (dG.polB tG X Tw Tc) dG tB tG X) := K8.out.mark hf9
  obtain ⟨CX,hCX⟩ : ∃ C,dX.x.cnt = C := ⟨_,rfl⟩
  have HCX2 := HCX.out
  rw [hCX] at HCX2 ⊢
  clear hf9 K8 cX hCX HCX
  have cB := fun o => fb_cell K9.out.s.s.B.b o
  have cG := fun o => fb_cell K9.out.s.G.b o
  have hk0 : ¬ (((1 + CX : Nat) : Int) < 0) := by omega
  go_wp2_with fail
  refine (law_eqPollD dG dB tG tB X ⟨Trs,Tes,Tts,Tw,Tn,Tc⟩ _ _ _ K9.out.s.G.own K9.out.s.s.B.own HSG.out HSB.out HTS.out K9.out.hG.own K9.out.hB.own HXL.out).mono ?_
  rintro x v10 ⟨rfl,hb10⟩
  have K10 : Hid (Q4 w v10 (lfabO ra rl rc ea el ec ta tl tc now) lB iB (dB.polB tB X Tw Tc) dB lG iG (dG.polB tG X Tw Tc) dG tB tG X) := K9.out.below hb10
  clear hb10 K9 cB cG
  have cG := fun o => fb_cell K10.out.s.G.b o
  go_wp2_with fail
  refine (law_markPollD dG tG X Tw Tc _ _ K10.out.s.G.own HCG.out K10.out.hG.own HXL.out K10.out.ap).mono ?_
  rintro x v11 ⟨rfl,ho11,hm11,hf11⟩
  have K11 : Hid (Q5 w v11 (lfabO ra rl rc ea el ec ta tl tc now) lB iB (dB.polB tB X Tw Tc) dB lG iG (dG.polB tG X Tw Tc) (dG.x.mark 1) tB tG X dG.x.cnt) := K10.out.mark hf11 ho11 hm11
  have HHD : Hid _ := fun w h ht => law_heldPollD dG tG X Tw Tc lG w h HCG.out ht HXL.out
  have hCG2 := HCG.out
  obtain ⟨CG,hCG⟩ : ∃ C,1 + dG.x.cnt + X.length = C := ⟨_,rfl⟩
  rw [hCG] at HHD ⊢
  clear hf11 ho11 hm11 K10 cG hCG hk0 HCG hCG2
  have cG := fun o => fb_cell K11.out.s.b o
  have hk1 : ¬ ((CG : Int) < 0) := by omega
  go_wp2_with fail
  refine (HHD.out _ K11.out.s.own K11.out.hG).mono ?_
  rintro x v12 ⟨rfl,hb12⟩
  have K12 : Hid (Q5 w v12 (lfabO ra rl rc ea el ec ta tl tc now) lB iB (dB.polB tB X Tw Tc) dB lG iG (dG.polB tG X Tw Tc) (dG.x.mark 1) tB tG X dG.x.cnt) := K11.out.below hb12
  clear hb12 K11 cG
  have cA := fun o => fb_cell K12.out.s.s.a o
  go_wp2_with fail
  refine (law_toFabO ra rl rc ea el ec ta tl tc now rs es ts _ (HL.out.below K12.out.s.s.bel) HSM.out).mono ?_
  rintro x v13 ⟨dY,rfl,hoY,hzY,hsY,hfY,hnY,hb13⟩
  have HAY : Hid (ArgD dY rl el tl rs es ts) := ⟨hzY.out.1,hzY.out.2.1,hzY.out.2.2.1,hzY.out.2.2.2.1,hzY.out.2.2.2.2,hsY.out.1,hsY.out.2.1,hsY.out.2.2⟩
  have K13 : Hid (Q5 w v13 (lfabO ra rl rc ea el ec ta tl tc now) lB iB (dB.polB tB X Tw Tc) dB lG iG (dG.polB tG X Tw Tc) (dG.x.mark 1) tB tG X dG.x.cnt) := K12.out.below hb13
  clear hb13 K12 cA hoY hzY hsY
  go_wp2_with fail
  refine (HIM.out dY _ hfY.out hnY.out (HPR.out _ _ K13.out.s.s.bel HP.out) HAY.out).mono ?_
  rintro x v14 ⟨⟨dH,tH,rfl,hoH,hsH,htH,_⟩,hb14⟩
  have HSH : Hid (dH.same ⟨Trs,Tes,Tts,Tw,Tn,Tc⟩) := hsH
  obtain ⟨lH,hlH⟩ : ∃ lH,v13.heap.size = lH := ⟨_,rfl⟩
  rw [hlH] at hoH htH
  have HT14 : Hid (tH.own (v14.alloc (dH.polB tH X Tw Tc)) lH X) := own_below htH (fbelow_new _ _)
  have K14 : Hid (Q5 w (v14.alloc (dH.polB tH X Tw Tc)) (lfabO ra rl rc ea el ec ta tl tc now) lB iB (dB.polB tB X Tw Tc) dB lG iG (dG.polB tG X Tw Tc) (dG.x.mark 1) tB tG X dG.x.cnt) := (K13.out.below hb14).below (fbelow_new _ _)
  have HO14 : Hid (dH.own (v14.alloc (dH.polB tH X Tw Tc)) lH) := hoH.below (fbelow_new _ _)
  have HBH : Hid ((v14.alloc (dH.polB tH X Tw Tc)).heap[v14.heap.size]? = some (dH.polB tH X Tw Tc)) := heap_alloc_new _ _
  clear hb14 K13 hoH hsH htH hfY hnY HAY hlH
  have cB := fun o => fb_cell K14.out.s.s.B.b o
  have cH := fun o => fb_cell HBH.out o
  go_wp2_with fail
  refine (law_eqPollD dH dB tH tB X ⟨Trs,Tes,Tts,Tw,Tn,Tc⟩ _ _ _ HO14.out K14.out.s.s.B.own HSH.out HSB.out HTS.out HT14.out K14.out.hB.own HXL.out).mono ?_
  rintro x v15 ⟨rfl,hb15⟩
  have K15 : Hid (Q5 w v15 (lfabO ra rl rc ea el ec ta tl tc now) lB iB (dB.polB tB X Tw Tc) dB lG iG (dG.polB tG X Tw Tc) (dG.x.mark 1) tB tG X dG.x.cnt) := K14.out.below hb15
  clear hb15 K14 HO14 HT14 HBH cB cH
  have cG := fun o => fb_cell K15.out.s.b o
  go_wp2_with fail
  refine (HHD.out _ K15.out.s.own K15.out.hG).mono ?_
  rintro x v16 ⟨rfl,hb16⟩
  have HB16 : Hid (Below w.heap.size w v16) := below_tr K15.out.s.s.bel hb16
  clear hb16 K15 cG
  go_wp2
  go_ret
  exact ⟨rfl,HB16.out⟩
end Go.Proofs.YtahccighonddaaaGreatDoor
namespace Go.Proofs.YtahccighonddaaaGreatDoor
open Go.RowKit Go.Maps
attribute [local go_sem ↓] Go.wp_at_zero Go.wp_at_succ
set_option linter.unusedSimpArgs false
set_option linter.unusedVariables false
set_option maxRecDepth 100000 in
set_option maxHeartbeats 4000000 in
theorem spec_Poll (ra : Option Addr) (rl rc : Nat) (ea : Option Addr) (el ec : Nat) (ta : Option Addr) (tl tc : Nat) (now n g most : Int) (loose : Bool) (rs : List RD) (es : List Int) (ts : List TD) (w : World)
    (hi : FIn w ra rl ea el ta tl rs es ts) (hen : ea = none → el = 0 ∧ ec = 0) :
    Calls Tryz.prog 18 #[fabVal ra rl rc ea el ec ta tl tc now,.int .i64 n,.int .i64 g,.int .i64 most,.bool loose] w fun x w' => SpAns w w' (pollQ rs es ts now n g most loose) (pollX rs ts n g most loose) x ∧ Below w.heap.size w w' := by
  have HI : Hid (FIn w ra rl ea el ta tl rs es ts) := hi
  have HEN : Hid (ea = none → el = 0 ∧ ec = 0) := hen
  have HS0 : Hid (T2 w ((w.alloc (fabO ra rl rc ea el ec ta tl tc now)).alloc (pollO none 0 0 none 0 0 none 0 0 0 none 0 0 0)) (fabO ra rl rc ea el ec ta tl tc now) (pollO none 0 0 none 0 0 none 0 0 0 none 0 0 0)) := t2_start ..
  obtain ⟨i0,hi0,hz0,hz1,hz2⟩ := info_parts info_strG
  have hle : w.heap.size ≤ w.heap.size + 1 := by omega
  have hln := hi.rs.1
  have hrl := hi.rle
  have htl := hi.tle
  obtain ⟨T,hT⟩ : ∃ T,pollQ rs es ts now n g most loose = T := ⟨_,rfl⟩
  have HT : Hid (pollQ rs es ts now n g most loose = T) := hT
  obtain ⟨TX,hTX⟩ : ∃ T,pollX rs ts n g most loose = T := ⟨_,rfl⟩
  have HTX : Hid (pollX rs ts n g most loose = TX) := hTX
  rw [hT,hTX]
  clear hi hen hT hTX
  have HILL : Hid (∀ c : Int,T = .error c → ∀ (o : Obj) (v2 : World) (v0 v1 v2' v3 v4 v5 : Value),T2 w v2 o (pollO none 0 0 none 0 0 none 0 0 0 none 0 0 0) → SpAns w (set6 v2 (w.heap.size + 1) v0 v1 v2' v3 v4 v5) T TX (.returned (pillV c)) ∧ Below w.heap.size w (set6 v2 (w.heap.size + 1) v0 v1 v2' v3 v4 v5)) := fun c hc _ v2 _ _ _ _ _ _ h2 => ⟨by rw [hc]; rfl,below_set6o h2.below hle _ _ _ _ _ _⟩
  go_enter Tryz.func18,Tryz.ntmps18
  go_wp2_with fail
  refine (spec_is most 1 20 _).mono ?_
  rintro x v0 ⟨rfl,hv0⟩
  have HS1 : Hid (T2 w v0 (fabO ra rl rc ea el ec ta tl tc now) (pollO none 0 0 none 0 0 none 0 0 0 none 0 0 0)) := show T2 w v0 (fabO ra rl rc ea el ec ta tl tc now) (pollO none 0 0 none 0 0 none 0 0 0 none 0 0 0) by rw [hv0]; exact HS0.out
  clear hv0 HS0
  have c0 := fun o => HS1.out.cell0 o
  have c1 := fun o => HS1.out.cell1 o
  have f1 := fun o => HS1.out.free1 o
  by_cases hm : 1 ≤ most ∧ most ≤ 20
  case neg =>
    have HTI : Hid (T = .error 1) := show _ = _ by
      rw [← HT.out]
      unfold pollQ pollR
      rw [if_pos hm]
      cases fabRightB rs es ts now <;> rfl
    rw [decide_eq_false hm]
    clear hm
    go_wp2
    exact bodyPost_ret (v := pillV 1) (by simp [results,Tryz.results18,go_sem,c1]) rfl (HILL.out 1 HTI.out _ _ _ _ _ _ _ _ HS1.out)
  case pos =>
  obtain ⟨m,rfl⟩ : ∃ m : Nat,most = (m : Int) := ⟨most.toNat,by omega⟩
  have HM : Hid (m ≤ 20 ∧ 1 ≤ m) := show _ ∧ _ by omega
  rw [decide_eq_true hm]
  go_wp2_with fail
  refine (spec_gcode ra rl rc ea el ec ta tl tc now g rs es ts _ (HI.out.below HS1.out.below)).mono ?_
  rintro x v1 ⟨rfl,hb1⟩
  have HS2 : Hid (T2 w v1 (fabO ra rl rc ea el ec ta tl tc now) (pollO none 0 0 none 0 0 none 0 0 0 none 0 0 0)) := HS1.out.under hb1
  clear hb1 HS1 c0 c1 f1
  have c0 := fun o => HS2.out.cell0 o
  have c1 := fun o => HS2.out.cell1 o
  have f1 := fun o => HS2.out.free1 o
  obtain ⟨C,hC⟩ : ∃ C : Int,(if fabRightB rs es ts now then (if 0 ≤ g ∧ g < (rs.length : Int) then (0 : Int) else 8) else 1) = C := ⟨_,rfl⟩
  have HC : Hid ((if fabRightB rs es ts now then (if 0 ≤ g ∧ g < (rs.length : Int) then (0 : Int) else 8) else 1) = C) := hC
  rw [hC]
  clear hC
  by_cases h0 : C = 0
  case neg =>
    have hcb : (C != 0) = true := by simpa using h0
    have HTI : Hid (T = .error C) := by
      have h1 := HC.out
      show _ = _
      rw [← HT.out]
      unfold pollQ pollR
      cases hR : fabRightB rs es ts now with
      | false => rw [hR] at h1; rw [← h1]; rfl
      | true =>
        rw [hR,if_pos rfl] at h1
        by_cases hg : 0 ≤ g ∧ g < (rs.length : Int)
        · rw [if_pos hg] at h1; exact absurd h1.symm h0
        · rw [if_neg hg] at h1
          rw [← h1,if_pos rfl,if_neg (fun e => e hm)]
          unfold grpR
          rw [if_neg hg]
    clear h0 HC hm
    go_wp2
    exact bodyPost_ret (v := pillV C) (by simp [results,Tryz.results18,go_sem,c1]) rfl (HILL.out C HTI.out _ _ _ _ _ _ _ _ HS2.out)
  case pos =>
  have hcb : (C != 0) = false := by simp [h0]
  have hRg : fabRightB rs es ts now = true ∧ 0 ≤ g ∧ g < (rs.length : Int) := by
    have h1 := HC.out
    rw [h0] at h1
    cases hR : fabRightB rs es ts now with
    | false => rw [hR] at h1; simp at h1
    | true =>
      rw [hR,if_pos rfl] at h1
      by_cases hg : 0 ≤ g ∧ g < (rs.length : Int)
      · exact ⟨rfl,hg⟩
      · rw [if_neg hg] at h1; simp at h1
  obtain ⟨hR,hg⟩ := hRg
  obtain ⟨G,rfl⟩ : ∃ G : Nat,g = (G : Int) := ⟨g.toNat,by omega⟩
  obtain ⟨r,hr⟩ : ∃ r,rs[G]? = some r := ⟨rs[G]'(by omega),List.getElem?_eq_getElem _⟩
  have hgl : G < rl := by omega
  have hgi : (G : Int) < (rl : Int) := by omega
  have HRG : Hid (rs[G]? = some r) := hr
  have HFW : Hid (r.fit w) := rngs_fits HI.out.rs r (List.mem_of_getElem? hr)
  have HFIT : Hid (ringFitB ts (G : Int) r = true) := right_ring hR hr
  have HTA : Hid (T = if (heardA ts r n m loose).c = 0 then .ok ⟨rs.set G (heardA ts r n m loose).rd,es,ts,now,0⟩ else .error (heardA ts r n m loose).c) := show _ = _ by
    rw [← HT.out]
    unfold pollQ pollR grpR
    rw [hR,if_pos rfl,if_neg (fun e => e hm),if_pos hg,show ((G : Int)).toNat = G by omega,hr,show ((m : Int)).toNat = m by omega]
  have HTT : Hid (TX = heardT ts r n m loose) := show _ = _ by
    rw [← HTX.out]
    unfold pollX
    rw [show ((G : Int)).toNat = G by omega,hr,show ((m : Int)).toNat = m by omega]
  clear h0 hR hg hr HC hm HT HTX
  obtain ⟨rb,ro,r1,hra,hr1,q0,q1,q2,q3,hrf⟩ := rngsG_at keeps_fit HI.out.rs HS2.out.below hgl
  subst hra
  obtain rfl := Option.some.inj (HRG.out.symm.trans hr1)
  have HRF : Hid (r.fit v1) := hrf.out
  have HRR : Hid (ringRightB r.cap r.first r.recs r.curs = true) := fit_right HFIT.out
  obtain ⟨Z,hZ⟩ : ∃ Z,v1.heap.size = Z := ⟨_,rfl⟩
  have HP0 : Hid (PR w (v1.alloc r.obj) (fabO (some ⟨rb,ro,none⟩) rl rc ea el ec ta tl tc now) (pollO none 0 0 none 0 0 none 0 0 0 none 0 0 0) Z r.obj) := ⟨HS2.out.under (fbelow_new _ _),by rw [← hZ]; exact heap_alloc_new _ _⟩
  have HZW : Hid (w.heap.size + 1 < Z) := show _ < _ by have := HS2.out.size; omega
  have HF0 : Hid (r.fit (v1.alloc r.obj)) := HRF.out.below (fbelow_new _ _)
  clear hr1 hrf HRF c0 c1 f1
  have c0 := fun o => HS2.out.cell0 o
  have cz := fun o => fb_cell HP0.out.r o
  go_wp2_with fail
  refine (spec_cursor r.cap r.first r.ra r.rl r.rc r.ca r.cl r.cc n r.curs _ HF0.out.cur.curs (right_curs HRR.out).2 HF0.out.cle).mono ?_
  rintro x v2 ⟨rfl,hb2⟩
  have HP2 : Hid (PR w v2 (fabO (some ⟨rb,ro,none⟩) rl rc ea el ec ta tl tc now) (pollO none 0 0 none 0 0 none 0 0 0 none 0 0 0) Z r.obj) := HP0.out.under hb2
  have HF2 : Hid (r.fit v2) := HF0.out.below hb2
  clear hb2 HP0 HF0 c0 cz hZ HS2 q0 q1 q2 q3
  by_cases hB : findB n r.curs = true
  case neg =>
    have hB' : findB n r.curs = false := by simpa using hB
    have HTI : Hid (T = .error 6) := show _ = _ by
      rw [HTA.out]
      unfold heardA
      rw [if_neg hB,if_neg (by decide)]
      rfl
    rw [show curIx n r.curs = -1 from if_neg hB]
    have c1 := fun o => HP2.out.t.cell1 o
    have f1 := fun o => HP2.out.t.free1 o
    clear hB hB'
    go_wp2
    exact bodyPost_ret (v := pillV 6) (by simp [results,Tryz.results18,go_sem,c1]) rfl (HILL.out 6 HTI.out _ _ _ _ _ _ _ _ HP2.out.t)
  case pos =>
  have hkl := find_lt hB
  rw [show curIx n r.curs = (findK n r.curs : Int) from if_pos hB]
  obtain ⟨K,hK⟩ : ∃ K,findK n r.curs = K := ⟨_,rfl⟩
  have HKE : Hid (findK n r.curs = K) := hK
  rw [hK] at hkl ⊢
  have HB : Hid (findB n r.curs = true) := hB
  have HKL : Hid (K < r.curs.length) := hkl
  have hcl : r.curs.length = r.cl := HF2.out.cur.curs.1
  have hKi : (K : Int) < (r.cl : Int) := by omega
  clear hB hK hkl
  have c0 := fun o => HP2.out.t.cell0 o
  go_wp2_with fail
  refine (spec_lstable (some ⟨rb,ro,none⟩) rl rc ea el ec ta tl tc now rs ts G r _ (rngs_below HI.out.rs HP2.out.t.below) (txs_below HI.out.ts HP2.out.t.below) HRG.out HFIT.out hrl htl).mono ?_
  rintro x v3 ⟨rfl,hb3⟩
  have HP3 : Hid (PR w v3 (fabO (some ⟨rb,ro,none⟩) rl rc ea el ec ta tl tc now) (pollO none 0 0 none 0 0 none 0 0 0 none 0 0 0) Z r.obj) := HP2.out.under hb3
  have HF3 : Hid (r.fit v3) := HF2.out.below hb3
  clear hb3 HP2 HF2 c0
  go_upto_if 43 with fail
  go_cut [14] (fun t wc => t = .int .i64 (hearTill ts r loose) ∧ Hid (PR w wc (fabO (some ⟨rb,ro,none⟩) rl rc ea el ec ta tl tc now) (pollO none 0 0 none 0 0 none 0 0 0 none 0 0 0) Z r.obj) ∧ Hid (r.fit wc))
  case first =>
    have cz := fun o => fb_cell HP3.out.r o
    cases loose with
    | false =>
      go_wp2_with fail
      go_meet
      exact ⟨rfl,HP3,HF3⟩
    | true =>
      go_wp2_with fail
      refine (spec_end r.cap r.first r.ra r.rl r.rc r.ca r.cl r.cc _ (right_first HRR.out).1 HF3.out.rle).mono ?_
      rintro x v4 ⟨rfl,hb4⟩
      have HP4 : Hid (PR w v4 (fabO (some ⟨rb,ro,none⟩) rl rc ea el ec ta tl tc now) (pollO none 0 0 none 0 0 none 0 0 0 none 0 0 0) Z r.obj) := HP3.out.under hb4
      have HF4 : Hid (r.fit v4) := HF3.out.below hb4
      clear hb4 cz
      go_wp2_with fail
      go_meet
      refine ⟨?_,HP4,HF4⟩
      have hl : r.recs.length = r.rl := HF4.out.str.strs.1
      simp only [hearTill,if_true,hl]
  case rest =>
  obtain ⟨rfl,HP4,HF4⟩ := hcut
  clear HP3 HF3
  have c0 := fun o => HP4.out.t.cell0 o
  go_wp2_with fail
  refine (spec_fcopy (some ⟨rb,ro,none⟩) rl rc ea el ec ta tl tc now rs es ts _ (HI.out.below HP4.out.t.below) HEN.out).mono ?_
  rintro x v5 ⟨d,rfl,hod,hdr,hde,hdt,hdrl,hdel,hdtl,hb5⟩
  have HF5 : Hid (r.fit (v5.alloc (pollO d.ra d.rl d.rc d.ea d.el d.ec d.ta d.tl d.tc now none 0 0 0))) := (HF4.out.below hb5).below (fbelow_new _ _)
  have HL : Hid (PL w (v5.alloc (pollO d.ra d.rl d.rc d.ea d.el d.ec d.ta d.tl d.tc now none 0 0 0)) (fabO (some ⟨rb,ro,none⟩) rl rc ea el ec ta tl tc now) (pollO none 0 0 none 0 0 none 0 0 0 none 0 0 0) Z r.obj v5.heap.size d now [] none 0) := PL.start (HP4.out.under hb5) (OwnFab.mono hod HP4.out.t.below.size) HZW.out
  have HDS : Hid (d.rs.map RD.strip = rs.map RD.strip ∧ d.es = es ∧ d.ts.map TD.strip = ts.map TD.strip) := ⟨hdr,hde,hdt⟩
  have HDL : Hid (d.rl = rl) := hdrl
  obtain ⟨Y,hY⟩ : ∃ Y,v5.heap.size = Y := ⟨_,rfl⟩
  rw [hY] at HL
  clear hod hdr hde hdt hdrl hdel hdtl hb5 HP4 HF4 c0
  obtain ⟨b,off,hce,_,hd6⟩ := HF5.out.cur.curs.2 K HKL.out
  have HCA : Hid (r.ca = some ⟨b,off,none⟩) := hce
  have hC0 : (r.curs[K]'HKL.out).2 = hearC0 r n := by
    unfold hearC0
    rw [HKE.out,List.getD_eq_getElem?_getD,List.getElem?_eq_getElem HKL.out]
    rfl
  rw [hC0] at hd6
  have cz : ∀ o,(v5.alloc (pollO d.ra d.rl d.rc d.ea d.el d.ec d.ta d.tl d.tc now none 0 0 0)).cell? ⟨Z,o,none⟩ = (#[.int .i64 r.cap,.int .i64 r.first,.slice r.ra r.rl r.rc,.slice (some ⟨b,off,none⟩) r.cl r.cc] : Array Value)[o]? := fun o => by rw [fb_cell HL.out.p.r o,hce]
  have HAT := hear_at HRR.out HB.out
  have HTL := hear_till (ts := ts) (r := r) (loose := loose)
  have HLN : Hid _ := hear_len (ts := ts) (g := n) (loose := loose) HRR.out HB.out
  have hrcl : r.recs.length ≤ 1048576 := by have h := HF5.out.str.strs.1; have h2 := HF5.out.rle; omega
  have hfst := (right_first HRR.out).1
  clear hC0 hce
  go_wp2_with fail
  clear cz hd6 hY
  go_loopw [16] (fun i wr => ∃ (k : Nat) (a : Option Addr) (c : Nat) (acc : List ByteArray) (y : Int),k ≤ (hearRecs ts r n loose).length ∧ acc.length ≤ m ∧ i = .int .i64 y ∧ Hid (y = hearC0 r n + (k : Int)) ∧ Hid (gath (hearP ts loose) ((hearRecs ts r n loose).drop k) m k acc = hearG ts r n m loose) ∧ Hid (PL w wr (fabO (some ⟨rb,ro,none⟩) rl rc ea el ec ta tl tc now) (pollO none 0 0 none 0 0 none 0 0 0 none 0 0 0) Z r.obj Y d now acc a c) ∧ Hid (r.fit wr)) (fun i _ => (hearRecs ts r n loose).length - (intOf i - hearC0 r n).toNat)
  case atStart => exact ⟨0,none,0,[],hearC0 r n,by omega,by simp,rfl,show _ = _ by simp,rfl,HL,HF5⟩
  case round =>
    obtain ⟨k,a,c,acc,y,hk,hacc,rfl,hy,hG,hl,hf⟩ := hrel
    clear HL HF5
    have HLN2 := HLN.out
    have hyv := hy.out
    have hm20 := HM.out
    by_cases hq : y < hearTill ts r loose ∧ acc.length < m
    case neg =>
      have HGE : Hid (hearG ts r n m loose = (k,acc)) := show _ = _ by
        rw [← hG.out]
        by_cases h2 : acc.length < m
        · have : (hearRecs ts r n loose).drop k = [] := by
            refine List.drop_eq_nil_of_le ?_
            have h3 : ¬ y < hearTill ts r loose := fun e => hq ⟨e,h2⟩
            rcases HLN2 with h | ⟨_,h⟩
            · omega
            · rw [h]; exact Nat.zero_le _
          rw [this]
          rfl
        · exact gath_full (by omega)
      have HX := hear_x (ts := ts) (m := m) (loose := loose) HRR.out HB.out
      have HME := hearM_eq (ts := ts) (m := m) (loose := loose) HRR.out HB.out
      rw [HGE.out] at HX HME
      rw [HKE.out] at HME
      obtain ⟨xx,hxx⟩ : ∃ xx,hearC0 r n + (k : Int) = xx := ⟨_,rfl⟩
      have hxy : y = xx := hyv.trans hxx
      subst hxy
      obtain ⟨cs,hcs⟩ : ∃ cs,r.curs.take K ++ (n,y) :: r.curs.drop (K + 1) = cs := ⟨_,rfl⟩
      have hkl := HKL.out
      have hKg : (r.curs[K]).1 = n := by
        have h := HB.out
        unfold findB at h
        rw [HKE.out,List.getElem?_eq_getElem hkl] at h
        simpa using h
      have HCS : Hid ((curCells r.curs).set (K * 2 + 1) (.int .i64 y) = curCells cs) := show _ = _ by rw [curCells_set r.curs K hkl y,hKg,hcs]
      have hRC := (right_curs HRR.out).1
      have hin : ∀ q ∈ cs,r.first ≤ q.2 ∧ q.2 ≤ r.first + (r.recs.length : Int) := fun q hq => by
        rw [← hcs] at hq
        rcases List.mem_append.1 hq with h | h
        · exact hRC q (List.mem_of_mem_take h)
        · rcases List.mem_cons.1 h with h | h
          · subst h; exact ⟨by show r.first ≤ y; omega,by show y ≤ _; omega⟩
          · exact hRC q (List.mem_of_mem_drop h)
      have hCL := curLeast_in r.first (r.first + (r.recs.length : Int)) cs (by omega) hin
      obtain ⟨P,hP⟩ : ∃ P : Nat,curLeast r.first cs = r.first + (P : Int) := ⟨(curLeast r.first cs - r.first).toNat,by omega⟩
      have HPE : Hid (curLeast r.first cs = r.first + (P : Int)) := hP
      have hlr : r.recs.length = r.rl := hf.out.str.strs.1
      have hPl : P ≤ r.rl := by omega
      have hcsl : cs.length = r.cl := by
        rw [← hcs]
        simp only [List.length_append,List.length_cons,List.length_take,List.length_drop]
        omega
      have HAE : Hid (heardA ts r n m loose = ⟨r.cap,r.first + (P : Int),r.recs.drop P,cs,0,0,⟨#[]⟩,0⟩) := show _ = _ by
        unfold heardA
        rw [if_pos HB.out,HME]
        show trimR r.cap r.first r.recs (r.curs.take K ++ (n,hearC0 r n + (k : Int)) :: r.curs.drop (K + 1)) = _
        rw [hxx,hcs]
        unfold trimR
        rw [hP,show (r.first + (P : Int) - r.first).toNat = P by omega]
        rfl
      have HTE : Hid (T = .ok ⟨rs.set G ⟨r.cap,r.first + (P : Int),none,0,0,none,0,0,r.recs.drop P,cs⟩,es,ts,now,0⟩) := show _ = _ by
        rw [HTA.out,HAE.out]
        rfl
      have HTX : Hid (TX = acc) := show _ = _ by
        rw [HTT.out]
        unfold heardT
        rw [if_pos HB.out,HGE.out]
      have hgd : G < d.rl := by rw [HDL.out]; exact hgl
      have hgdi : (G : Int) < (d.rl : Int) := by omega
      obtain ⟨tb,hdra⟩ := own_nform hl.out.own.r (by omega)
      have HRA : Hid (d.ra = some ⟨tb,0,none⟩) := hdra
      obtain ⟨r0,hr0⟩ := gstrip_some HDS.out.1 HRG.out
      have HR0 : Hid (d.rs[G]? = some r0) := hr0
      have hgl3 : G < d.rs.length := (List.getElem?_eq_some_iff.1 hr0).1
      have HLD : Hid (PL w wr.drew (fabO (some ⟨rb,ro,none⟩) rl rc ea el ec ta tl tc now) (pollO none 0 0 none 0 0 none 0 0 0 none 0 0 0) Z r.obj Y d now acc a c) := hl.out.under ((Below.refl _ _).drew)
      have HFD : Hid (r.fit wr.drew) := hf.out.below ((Below.refl _ _).drew)
      have HCELL : Hid (∀ u,PL w u (fabO (some ⟨rb,ro,none⟩) rl rc ea el ec ta tl tc now) (pollO none 0 0 none 0 0 none 0 0 0 none 0 0 0) Z r.obj Y d now acc a c → (u.cell? ⟨tb,G * 4,none⟩ = some (.int .i64 r0.cap) ∧ u.cell? ⟨tb,G * 4 + 1,none⟩ = some (.int .i64 r0.first) ∧ u.cell? ⟨tb,G * 4 + 2,none⟩ = some (.slice r0.ra r0.rl r0.rc) ∧ u.cell? ⟨tb,G * 4 + 3,none⟩ = some (.slice r0.ca r0.cl r0.cc)) ∧ (∀ j,u.frozen? ⟨tb,j,none⟩ = false) ∧ (∀ o,u.cell? ⟨Y,o,none⟩ = (#[.slice (some ⟨tb,0,none⟩) d.rl d.rc,.slice d.ea d.el d.ec,.slice d.ta d.tl d.tc,.int .i64 now,.slice a acc.length c,.int .i64 0] : Array Value)[o]?)) := fun u hu => by
        have hrow := (fun (x : Option Addr) (hx : d.ra = x) => (by cases hx; exact hu.own.r : World.ownsRow u _ _ _ (.slice x d.rl d.rc) _ _)) _ HRA.out
        have hcr : ∀ j,j < 4 → u.cell? ⟨tb,G * 4 + j,none⟩ = r0.cells[j]? := fun j hj => by
          rw [hrow.cellAt (G * 4 + j) (by omega),rdCells_at d.rs G j hgl3 hj,(List.getElem?_eq_some_iff.1 HR0.out).2]
        exact ⟨⟨by rw [← Nat.add_zero (G * 4)]; exact hcr 0 (by omega),hcr 1 (by omega),hcr 2 (by omega),hcr 3 (by omega)⟩,fun j => hrow.frozenAt j,fun o => by rw [fb_cell hu.y o,HRA.out]⟩
      have HSM : Hid (∀ a q b p,(d.setR G ⟨r.cap,r.first + (P : Int),a,r.rl - P,q,b,r.cl,p,r.recs.drop P,cs⟩).same ⟨rs.set G ⟨r.cap,r.first + (P : Int),none,0,0,none,0,0,r.recs.drop P,cs⟩,es,ts,now,0,0⟩) := fun a q b p => by
        refine ⟨?_,HDS.out.2.1,HDS.out.2.2⟩
        show (d.rs.set G _).map RD.strip = (rs.set G _).map RD.strip
        rw [List.map_set,List.map_set,HDS.out.1]
        rfl
      have HMV : Hid _ := spec_lmove (cap := r.cap) (first := r.first) (ra := r.ra) (rl := r.rl) (rc := r.rc) (ca := r.ca) (cl := r.cl) (cc := r.cc) r.recs r.curs cs K P y wr.drew HFD.out.str HFD.out.cur HFD.out.rle HFD.out.cle (by omega) HCS.out hfst HPE.out hPl
      have cy := fun o => fb_cell hl.out.y o
      have hkey : ¬ y < hearTill ts r loose ∨ ¬ ((acc.length : Int) < (m : Int)) := by
        by_cases h1 : y < hearTill ts r loose
        · exact .inr fun e => hq ⟨h1,by omega⟩
        · exact .inl h1
      clear hG HLN HLN2 HX HME hKg hRC hin hCL hP hlr hcsl hgd hr0 hgl3 hq hyv hy hcs hxx
      by_cases h1 : y < hearTill ts r loose
      all_goals
        first
          | (have h2 : ¬ ((acc.length : Int) < (m : Int)) := hkey.resolve_left (fun e => e h1))
          | skip
        clear hkey
        go_upto_region 20 with fail
        clear cy
        go_cut [] (fun wc => ∃ d' : FD,d'.ra = some ⟨tb,0,none⟩ ∧ Hid (T2 w wc (fabO (some ⟨rb,ro,none⟩) rl rc ea el ec ta tl tc now) (pollO none 0 0 none 0 0 none 0 0 0 none 0 0 0)) ∧ Hid (wc.heap[Y]? = some (pollO d'.ra d'.rl d'.rc d'.ea d'.el d'.ec d'.ta d'.tl d'.tc now a acc.length c 0)) ∧ Hid (d'.own wc w.heap.size) ∧ Hid (d'.same ⟨rs.set G ⟨r.cap,r.first + (P : Int),none,0,0,none,0,0,r.recs.drop P,cs⟩,es,ts,now,0,0⟩) ∧ Hid (wc.ownsRow w.heap.size 9 1 (.slice a acc.length c) acc.length (acc.map Value.string)))
        case first =>
          have cy := (HCELL.out _ HLD.out).2.2
          have cz := fun o => fb_cell HLD.out.p.r o
          go_region_with (go_at_call 66; refine Calls.mono HMV.out ?_; rintro e v7 ⟨a9,q9,c9,p9,rfl,ho9,hb9⟩; have HL7 : Hid (PL w v7 (fabO (some ⟨rb,ro,none⟩) rl rc ea el ec ta tl tc now) (pollO none 0 0 none 0 0 none 0 0 0 none 0 0 0) Z r.obj Y d now acc a c) := HLD.out.under hb9; have HO9 : Hid (RD.own ⟨r.cap,r.first + (P : Int),a9,r.rl - P,q9,c9,r.cl,p9,r.recs.drop P,cs⟩ v7 wr.drew.heap.size) := ho9; obtain ⟨⟨k0,k1,k2,k3⟩,hf7,cy⟩ := HCELL.out _ HL7.out; have cz := fun o => fb_cell HL7.out.p.r o; clear ho9 hb9)
          all_goals
            have HPUT : Hid _ := PL.put (k := G) (t0 := r0) (t := ⟨r.cap,r.first + (P : Int),a9,r.rl - P,q9,c9,r.cl,p9,r.recs.drop P,cs⟩) HL7.out HRA.out HR0.out HO9.out (Nat.le_of_lt (fb_lt HLD.out.y)) ⟨_,rfl⟩ ⟨_,rfl⟩
            go_wp2_with fail
            go_meet
            exact ⟨d.setR G ⟨r.cap,r.first + (P : Int),a9,r.rl - P,q9,c9,r.cl,p9,r.recs.drop P,cs⟩,HRA.out,HPUT.out.1,HPUT.out.2.1,HPUT.out.2.2.1,HSM.out _ _ _ _,HPUT.out.2.2.2⟩
        case rest =>
        obtain ⟨d',hra',HT2,HY',HD',HS',HX'⟩ := hcut
        have cy := fun o => fb_cell HY'.out o
        have c1 := fun o => HT2.out.cell1 o
        have f1 := fun o => HT2.out.free1 o
        clear hra'
        go_wp2
        exact bodyPost_ret (v := pollV d'.ra d'.rl d'.rc d'.ea d'.el d'.ec d'.ta d'.tl d'.tc now a acc.length c 0) (by simp [results,Tryz.results18,go_sem,c1]) rfl (poll_fin HTE.out HTX.out rfl HT2.out ⟨_,rfl⟩ HD'.out HS'.out HX'.out _ _ _ _ _ _)
    case pos =>
    have h1 := hq.1
    have h2 : ((acc.length : Int) < (m : Int)) := by have := hq.2; omega
    have hkr : k < (hearRecs ts r n loose).length := by
      rcases HLN2 with h | ⟨h,_⟩ <;> omega
    obtain ⟨hjr,hge⟩ := hear_get hkr
    obtain ⟨j,hj⟩ : ∃ j,(hearC0 r n - r.first).toNat + k = j := ⟨_,rfl⟩
    obtain rfl : y = r.first + (j : Int) := by omega
    have hg2 := hG.out
    rw [List.drop_eq_getElem_cons hkr,gath_cons (by omega),hge] at hg2
    simp only [hj] at hjr hge hg2
    have hjl : j < r.rl := by rw [← hf.out.str.strs.1]; exact hjr
    obtain ⟨_,_,hra⟩ := rec_num HRR.out hjr
    have hPor := hearP_or ts loose r.recs[j]
    have HA : Hid (∀ w,r.fit w → _) := fun w h => spec_lat (cap := r.cap) (first := r.first) (ca := r.ca) (cl := r.cl) (cc := r.cc) r.recs j w h.str (fun s hs => by have := h.sz s hs; unfold maxLen; omega) hjl h.rle
    rw [hra] at HA
    have HCN : Hid (∀ w1,Below w.heap.size w w1 → _) := fun w1 (hb : Below w.heap.size w w1) => spec_lcounts (some ⟨rb,ro,none⟩) rl rc ea el ec ta tl tc now rs ts G j r w1 (rngs_below HI.out.rs hb) (txs_below HI.out.ts hb) HRG.out HFIT.out hjr hrl htl
    obtain ⟨dv,hdv⟩ : ∃ x,dataOf ts 2 r.recs[j] = x := ⟨_,rfl⟩
    obtain ⟨Q,hQ⟩ : ∃ x,hearP ts loose r.recs[j] = x := ⟨_,rfl⟩
    obtain ⟨n1,hk1⟩ : ∃ x,(readRes r.recs[j]).1 = x := ⟨_,rfl⟩
    obtain ⟨n2,hk2⟩ : ∃ x,(readRes r.recs[j]).2.1 = x := ⟨_,rfl⟩
    obtain ⟨n3,hk3⟩ : ∃ x,(readRes r.recs[j]).2.2.1 = x := ⟨_,rfl⟩
    rw [hk1,hk2,hk3] at HA
    rw [hdv] at HCN
    rw [hdv,hk1,hQ] at hPor
    rw [hQ,hk3] at hg2
    have HG2' : Hid _ := hg2
    have HPOR : Hid ((dv || (loose && n1 == 1)) = Q) := hPor
    have hwj : IntKind.i64.wrap (r.first + (j : Int) + 1) = r.first + (j : Int) + 1 := twrap_in _ (by omega) (by omega)
    have cz := fun o => fb_cell hl.out.p.r o
    have cy := fun o => fb_cell hl.out.y o
    clear hg2 hra hk1 hk2 hk3 hdv hQ hPor hge hjl hG HLN HLN2 hq hyv
    go_wp2_with fail
    refine (HA.out _ hf.out).mono ?_
    rintro x v6 ⟨rfl,hb6⟩
    have HL7 : Hid (PL w (v6.alloc (.cells #[.int .i64 n1,.int .i64 n2,.string n3] 65)) (fabO (some ⟨rb,ro,none⟩) rl rc ea el ec ta tl tc now) (pollO none 0 0 none 0 0 none 0 0 0 none 0 0 0) Z r.obj Y d now acc a c) := (hl.out.under hb6).under (fbelow_new _ _)
    have HF7 : Hid (r.fit (v6.alloc (.cells #[.int .i64 n1,.int .i64 n2,.string n3] 65))) := (hf.out.below hb6).below (fbelow_new _ _)
    have HX7 : Hid ((v6.alloc (.cells #[.int .i64 n1,.int .i64 n2,.string n3] 65)).heap[v6.heap.size]? = some (.cells #[.int .i64 n1,.int .i64 n2,.string n3] 65 (0,0))) := heap_alloc_new _ _
    clear hb6 cz cy hl hf HA
    have c0 := fun o => HL7.out.p.t.cell0 o
    go_wp2_with fail
    refine (HCN.out _ HL7.out.p.t.below).mono ?_
    rintro x v8 ⟨rfl,hb8⟩
    have HL8 : Hid (PL w v8 (fabO (some ⟨rb,ro,none⟩) rl rc ea el ec ta tl tc now) (pollO none 0 0 none 0 0 none 0 0 0 none 0 0 0) Z r.obj Y d now acc a c) := HL7.out.under hb8
    have HF8 : Hid (r.fit v8) := HF7.out.below hb8
    have HX8 : Hid (v8.heap[v6.heap.size]? = some (.cells #[.int .i64 n1,.int .i64 n2,.string n3] 65 (0,0))) := (hb8.block _ (fb_lt HX7.out)).trans HX7.out
    clear hb8 HL7 HF7 HX7 HCN c0
    have cx := fun o => fb_cell HX8.out o
    cases Q with
    | true =>
      have HG2 : Hid (gath (hearP ts loose) (List.drop (k + 1) (hearRecs ts r n loose)) m (k + 1) (acc ++ [n3]) = hearG ts r n m loose) := HG2'.out
      clear HG2'
      have hsel : dv = true ∨ (dv = false ∧ loose = true ∧ (n1 == 1) = true) := by
        have h := HPOR.out
        cases dv <;> cases loose <;> simp_all
      clear HPOR
      rcases hsel with rfl | ⟨rfl,rfl,hn1⟩
      all_goals
        have cy := fun o => fb_cell HL8.out.y o
        have hys := fb_lt HL8.out.y
        go_wp2_with (at_builtin; refine wpList_append_own_any (by rfl) _ _ _ (by rfl) Y 9 i0 _ 1 16 Tryz.underlying43 hi0 hz0 hz1 hz2 (by rfl) (by omega) (.slice a acc.length c) acc.length _ (by rfl) (HL8.out.x.alloc _) (some ⟨v8.heap.size,0,none⟩) 1 1 [.string n3] (by rfl) (by rfl) (fun e' => by cases e') (fun ad e' => by cases e'; exact World.news_of_block (cs := #[.string n3]) (t := 9) (fr := (0,0)) (heap_alloc_new _ _)) (by simp [Value.oneCell']) (by unfold maxLen; omega) (by omega) (by simp; omega) ?_; intro v3 w3 ho3 hg3; obtain ⟨a3,c3,hv3,ho3'⟩ := app_shape ho3 rfl; subst hv3; have HLA : Hid (PL w (v8.alloc (.cells #[.string n3] 9)) (fabO (some ⟨rb,ro,none⟩) rl rc ea el ec ta tl tc now) (pollO none 0 0 none 0 0 none 0 0 0 none 0 0 0) Z r.obj Y d now acc a c) := HL8.out.under (fbelow_new _ _); have HG3 : Hid _ := hg3; have HO3 : Hid _ := ho3'; clear ho3 hg3 ho3' cy; have cy := fun o => fb_cell (PL.yat HLA.out HG3.out) o; have fy := fun o => unfrozen_of_block0 (PL.yat HLA.out HG3.out) o)
        have HLZ := PL.step HLA.out HG3.out HO3.out
        rw [show (acc ++ [n3]).length = acc.length + 1 by simp] at HLZ
        exact ⟨⟨k + 1,a3,c3,acc ++ [n3],r.first + (j : Int) + 1,by omega,by simp; omega,rfl,show _ = _ by have := hy.out; omega,HG2.out,HLZ,HFW.out.below HLZ.p.t.below⟩,by simp [intOf]; have := hy.out; omega⟩
    | false =>
      have HG2 : Hid (gath (hearP ts loose) (List.drop (k + 1) (hearRecs ts r n loose)) m (k + 1) acc = hearG ts r n m loose) := HG2'.out
      clear HG2'
      have hsel : (dv = false ∧ loose = false) ∨ (dv = false ∧ loose = true ∧ (n1 == 1) = false) := by
        have h := HPOR.out
        cases dv <;> cases loose <;> simp_all
      clear HPOR
      rcases hsel with ⟨rfl,rfl⟩ | ⟨rfl,rfl,hn1⟩
      all_goals
        go_wp2
        exact ⟨⟨k + 1,a,c,acc,r.first + (j : Int) + 1,by omega,by omega,rfl,show _ = _ by have := hy.out; omega,HG2.out,HL8,HF8⟩,by simp [intOf]; have := hy.out; omega⟩
end Go.Proofs.YtahccighonddaaaGreatDoor
namespace Go.Proofs.YtahccighonddaaaGreatDoor
open Go.RowKit
set_option linter.unusedSimpArgs false
set_option linter.unusedVariables false
theorem gath_len (p : ByteArray → Bool) (l : List ByteArray) (m : Nat) : ∀ (b : Nat) (acc : List ByteArray),acc.length ≤ m → (gath p l m b acc).2.length ≤ m := by
  induction l with
  | nil => exact fun b acc h => h
  | cons s l ih =>
    intro b acc h
    unfold gath
    by_cases hf : acc.length = m
    · rw [if_pos hf]; exact h
    · rw [if_neg hf]
      refine ih _ _ ?_
      split
      · simp; omega
      · exact h
theorem data_same {ts ts' : List TD} (h : ts'.map TD.strip = ts.map TD.strip) : dataOf ts' = dataOf ts := by
  funext st s
  rw [← dataOf_strip ts',h,dataOf_strip]
theorem heard_same {ts ts' : List TD} {r r' : RD} (h : ts'.map TD.strip = ts.map TD.strip) (hr : r'.strip = r.strip) (g : Int) (m : Nat) (loose : Bool) : heardA ts' r' g m loose = heardA ts r g m loose ∧ heardT ts' r' g m loose = heardT ts r g m loose := by
  have hd := data_same h
  simp only [RD.strip,RD.mk.injEq,true_and] at hr
  obtain ⟨q0,q1,q2,q3⟩ := hr
  have hp : hearP ts' loose = hearP ts loose := by funext s; unfold hearP; rw [hd]
  simp only [heardA,heardT,hearM,hearG,hearRecs,hearTill,hp,hearC0,stableR,hd,q0,q1,q2,q3,and_self]
def pollW (rs : List RD) (es : List Int) (ts : List TD) (now n g most : Int) (loose : Bool) : List ByteArray := match pollQ rs es ts now n g most loose with | .ok _ => pollX rs ts n g most loose | .error _ => []
theorem poll_same {rs rs' : List RD} {ts ts' : List TD} (es : List Int) (now n g most : Int) (loose : Bool) (hr : rs'.map RD.strip = rs.map RD.strip) (ht : ts'.map TD.strip = ts.map TD.strip) :
    (∃ c,pollR rs es ts now n g most loose = .error c ∧ pollR rs' es ts' now n g most loose = .error c) ∨ ∃ F F',pollR rs es ts now n g most loose = .ok F ∧ pollR rs' es ts' now n g most loose = .ok F' ∧ F'.rs.map RD.strip = F.rs.map RD.strip ∧ F'.es = F.es ∧ F'.ts.map TD.strip = F.ts.map TD.strip ∧ F'.now = F.now ∧ F'.n = F.n := by
  unfold pollR
  by_cases hm : ¬ (1 ≤ most ∧ most ≤ 20)
  · rw [if_pos hm,if_pos hm]; exact .inl ⟨_,rfl,rfl⟩
  · rw [if_neg hm,if_neg hm]
    have e : (fun r => heardA ts' r n most.toNat loose) = fun r => heardA ts r n most.toNat loose := funext fun r => (heard_same ht rfl n most.toNat loose).1
    rw [e]
    exact grp_same (fun r r' h => (heard_same rfl h n most.toNat loose).1) es now g hr ht
theorem told_same {rs rs' : List RD} {ts ts' : List TD} (n g most : Int) (loose : Bool) (hr : rs'.map RD.strip = rs.map RD.strip) (ht : ts'.map TD.strip = ts.map TD.strip) : pollX rs' ts' n g most loose = pollX rs ts n g most loose := by
  have e1 : (rs'.map RD.strip)[g.toNat]? = (rs.map RD.strip)[g.toNat]? := by rw [hr]
  rw [List.getElem?_map,List.getElem?_map] at e1
  unfold pollX
  cases h1 : rs[g.toNat]? with
  | none =>
    rw [h1] at e1
    cases h2 : rs'[g.toNat]? with
    | none => rfl
    | some r' => rw [h2] at e1; cases e1
  | some r =>
    rw [h1] at e1
    cases h2 : rs'[g.toNat]? with
    | none => rw [h2] at e1; cases e1
    | some r' =>
      rw [h2] at e1
      exact (heard_same ht (Option.some.inj e1) n most.toNat loose).2
theorem pollW_same {rs rs' : List RD} {ts ts' : List TD} (es : List Int) (now n g most : Int) (loose : Bool) (hr : rs'.map RD.strip = rs.map RD.strip) (ht : ts'.map TD.strip = ts.map TD.strip) : pollW rs' es ts' now n g most loose = pollW rs es ts now n g most loose := by
  unfold pollW pollQ
  rw [fab_same es now hr ht,told_same n g most loose hr ht]
  cases fabRightB rs es ts now with
  | false => rfl
  | true =>
    rw [if_pos rfl,if_pos rfl]
    rcases poll_same es now n g most loose hr ht with ⟨c,h1,h2⟩ | ⟨F,F',h1,h2,_⟩
    · rw [h1,h2]
    · rw [h1,h2]
theorem pollW_len (rs : List RD) (es : List Int) (ts : List TD) (now n g most : Int) (loose : Bool) : (pollW rs es ts now n g most loose).length ≤ 100 := by
  unfold pollW
  split
  · rename_i F h
    unfold pollQ pollR at h
    split at h
    · split at h
      · cases h
      · rename_i hm
        have hm' : most.toNat ≤ 20 := by omega
        unfold pollX
        split
        · rename_i r _
          unfold heardT
          split
          · exact Nat.le_trans (gath_len _ _ most.toNat 0 [] (Nat.zero_le _)) (by omega)
          · exact Nat.zero_le _
        · exact Nat.zero_le _
    · cases h
  · exact Nat.zero_le _
theorem ansP_ill {ap : Prop} (w w' : World) (c : Int) : AnsP ap w w' (ftIll c) [] (.returned (pillV c)) :=
  ⟨⟨none,0,0,none,0,0,none,0,0,[],[],[]⟩,⟨none,0⟩,rfl,ownFab_nil _ _,⟨rfl,rfl,rfl⟩,World.ownsRow_nil _ _ _ _,fun _ Y _ e => by cases e⟩
theorem ans_spec {rs : List RD} {es : List Int} {ts : List TD} {now n g most : Int} {loose : Bool} {w w' : World} {x : Ending} (h : SpAns w w' (pollQ rs es ts now n g most loose) (pollX rs ts n g most loose) x) : AnsP False w w' (ftOf (fabRightB rs es ts now) (pollR rs es ts now n g most loose)) (pollW rs es ts now n g most loose) x := by
  unfold pollW
  unfold pollQ at h ⊢
  cases hR : fabRightB rs es ts now with
  | false =>
    rw [hR] at h
    have hx : x = .returned (pillV 1) := h
    subst hx
    exact ansP_ill w w' 1
  | true =>
    rw [hR,if_pos rfl] at h
    rw [if_pos rfl]
    cases hQ : pollR rs es ts now n g most loose with
    | error c =>
      rw [hQ] at h
      have hx : x = .returned (pillV c) := h
      subst hx
      exact ansP_ill w w' c
    | ok F =>
      rw [hQ] at h
      obtain ⟨d,xa,xc,rfl,h1,h2,h3⟩ := h
      exact ⟨d,⟨xa,xc⟩,rfl,h1,h2,h3,fun e => e.elim⟩
theorem ans_impl {rs : List RD} {es : List Int} {ts : List TD} {now n g most : Int} {loose : Bool} {w w' : World} {x : Ending} (h0 : fabRightB rs es ts now = false → x = .returned (pillV 1)) (h : fabRightB rs es ts now = true → PollAns w w' (pollR rs es ts now n g most loose) (pollX rs ts n g most loose) x) : AnsP True w w' (ftOf (fabRightB rs es ts now) (pollR rs es ts now n g most loose)) (pollW rs es ts now n g most loose) x := by
  unfold pollW pollQ
  cases hR : fabRightB rs es ts now with
  | false =>
    have hx := h0 hR
    subst hx
    exact ansP_ill w w' 1
  | true =>
    have h := h hR
    rw [if_pos rfl]
    cases hQ : pollR rs es ts now n g most loose with
    | error c =>
      rw [hQ] at h
      have hx : x = .returned (pillV c) := h
      subst hx
      exact ansP_ill w w' c
    | ok F =>
      rw [hQ] at h
      obtain ⟨L,ra,rl,rc,ea,ec,ta,tl,tc,rs',ts',xa,xc,hL,rfl,ho,hs,_,_,hx,hlt⟩ := h
      refine ⟨⟨ra,rl,rc,ea,4,ec,ta,tl,tc,rs',F.es,ts'⟩,⟨xa,xc⟩,rfl,ho.mono hL,⟨hs.1,rfl,hs.2⟩,hx,fun _ Y hY e => ?_⟩
      have h1 := (FD.own.lt (d := ⟨ra,rl,rc,ea,4,ec,ta,tl,tc,rs',F.es,ts'⟩) ho hY).1
      have h2 := hlt Y e
      omega
end Go.Proofs.YtahccighonddaaaGreatDoor
