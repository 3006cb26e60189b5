import Derived.Test.YtneiihikcnjglaaGreatDoorFabStart4
import Derived.Test.YtneiihikcnjglaaGreatDoorSpecFab5
import Derived.Stop.IfaceNil
import Derived.Test.YtneiihikcnjglaaGreatDoorFabD
import Derived.Test.YtneiihikcnjglaaGreatDoorHearMath
import Derived.Deep.RegionLaw
import Derived.Deep.DrawnRows
import Derived.Laws.LoneSync
import Derived.Deep.RegionHeld3
import Derived.Test.YtneiihikcnjglaaGreatDoorTxnEnd
import Derived.Test.YtneiihikcnjglaaGreatDoorSpecAt
/- The program's questions to a fabric: FabricRight, OpenOf, Owed. -/
namespace Go.Proofs.YtneiihikcnjglaaGreatDoor
open Go.RowKit Go.Maps
attribute [local go_sem ↓] Go.wp_at_zero Go.wp_at_succ
set_option linter.unusedSimpArgs false
set_option linter.unusedVariables false

theorem openAt_end {ts : List TD} {k : Nat} (h : ts.length ≤ k) (p : Int) : openAt ts (k + 1) p = openAt ts k p := by
  unfold openAt
  rw [List.take_of_length_le h, List.take_of_length_le (Nat.le_succ_of_le h)]
/-- Whether the map has a producer. -/
theorem openD_has (ts : List TD) (p : Int) (k : Nat) : Maps.has (openD ts k) (.int .i64 p) = openAt ts k p := by
  induction k with
  | zero => simp [openD, openAt, Maps.has]
  | succ k ih =>
    unfold openD
    cases h : ts[k]? with
    | none => rw [openAt_end (List.getElem?_eq_none_iff.1 h)]; exact ih
    | some t =>
      simp only
      rw [openAt_succ h]
      by_cases hs : t.s = 1
      · rw [if_pos hs]
        by_cases hp : t.p = p
        · subst hp
          rw [has_put_same (openD_isMap ts k) (by simp [WideAt.IsKeyLit])]
          simp [hs]
        · rw [has_put_other (by intro e; cases e; exact hp rfl), ih]
          simp [hp]
      · rw [if_neg hs, ih]
        simp [hs]
theorem openOf_right {ts : List TD} {p : Int} (h : openB ts = true) (ho : openAt ts ts.length p = true) : openOf ts p = lastAt ts p ts.length + 1 := by
  obtain ⟨j, t, hj, ht, hs, hp⟩ := open_some ho
  obtain ⟨u, hu, us, up⟩ := lastAt_is ht hs hp ts.length hj
  exact openOf_at hu (fun i hi v hv hh => by have := openB_no hv hu hi hh.2 us (hh.1.trans up.symm); rw [h] at this; cases this) up us
theorem openOf_not {ts : List TD} {p : Int} (ho : openAt ts ts.length p = false) : openOf ts p = 0 := openOf_none (Nat.le_refl _) (fun j hj u hu hh => open_none ho hj hu hh.2 hh.1)
theorem right_txns {rs : List RD} {es : List Int} {ts : List TD} {now : Int} (h : fabRightB rs es ts now = true) : txnsFitB es rs.length now ts = true := by
  simp only [fabRightB, Bool.and_eq_true] at h
  exact h.1.2
theorem right_open {rs : List RD} {es : List Int} {ts : List TD} {now : Int} (h : fabRightB rs es ts now = true) : openB ts = true := by
  have h1 := right_txns h
  simp only [txnsFitB, Bool.and_eq_true] at h1
  exact h1.2
theorem right_sizes {rs : List RD} {es : List Int} {ts : List TD} {now : Int} (h : fabRightB rs es ts now = true) : 1 ≤ rs.length ∧ rs.length ≤ 4 ∧ es.length = 4 ∧ ts.length ≤ 12 := by
  simp only [fabRightB, Bool.and_eq_true] at h
  exact of_decide_eq_true h.1.1.1.1
section
variable {lo : Nat} {B M : Nat} {ta : Option Addr} {tl tc : Nat} {ra : Option Addr} {rl rc : Nat} {ea : Option Addr} {el ec : Nat} {now began puts : Int} {ts : List TD} {rs : List RD} {es : List Int} {m : Nat} {D : DataW Unit}
set_option maxHeartbeats 2000000 in
theorem impl_openOf (p : Int) (t : TypeId) (y : Value) (w : World) (h : WK lo w B M ta tl tc ra rl rc ea el ec now began puts ts rs es m D) (hp : -9223372036854775808 ≤ p ∧ p ≤ 9223372036854775807) (hE : w.cell? ⟨2, 0, none⟩ = some (.iface t y)) :
    Calls Tryz.prog 119 #[.pointer (some ⟨B, 0, none⟩), .int .i64 p] w fun x w' => ((Maps.has D (.int .i64 p) = true → ∃ c : Int, D.atKey (.int .i64 p) (.lit (.int .i64 0)) = .lit (.int .i64 c) ∧ x = .returned (.tuple #[.int .i64 c, .nilIface])) ∧ (Maps.has D (.int .i64 p) = false → x = .returned (.tuple #[.int .i64 0, .iface t y]))) ∧ Below w.heap.size w w' := by
  have cb := fun o => fb_cell h.b o
  have HM : Hid _ := h.m
  have hkey : keyOf Tryz.prog 2 (.int .i64 p) = some (.int .i64 p) := keyOf_int_mk Tryz.underlying2 (wf64 hp)
  obtain ⟨H, hH⟩ : ∃ H, Maps.has D (.int .i64 p) = H := ⟨_, rfl⟩
  have HH : Hid (Maps.has D (.int .i64 p) = H) := hH
  clear h hH
  cases H with
  | true =>
    go_enter Tryz.func119, Tryz.ntmps119
    go_wp2_with (first | (at_lookup; refine wpList_lookup_own_ok_int _ rfl _ _ 133 rfl 2 3 .i64 mapKey Tryz.underlying133 Tryz.underlying3 (mapZero _) M m D rfl HM.out _ _ rfl hkey ?_; intro c hat hwc; rw [HH.out]; have HA : Hid (D.atKey (.int .i64 p) (.lit (.int .i64 0)) = .lit (.int .i64 c)) := hat; clear hat hwc) | go_in)
    exact bodyPost_ret (v := .tuple #[.int .i64 c, .nilIface]) (by simp [results, Tryz.results119, go_sem]) rfl ⟨⟨fun _ => ⟨c, HA.out, rfl⟩, (fun e => by rw [HH.out] at e; cases e)⟩, Below.refl _ _⟩
  | false =>
    go_enter Tryz.func119, Tryz.ntmps119
    go_wp2_with (first | (at_lookup; refine wpList_lookup_own_ok_int _ rfl _ _ 133 rfl 2 3 .i64 mapKey Tryz.underlying133 Tryz.underlying3 (mapZero _) M m D rfl HM.out _ _ rfl hkey ?_; intro c hat hwc; rw [HH.out]; clear hat hwc) | go_in)
    go_quiet (first | (fail))
    go_wp2
    exact bodyPost_ret (v := .tuple #[.int .i64 0, .iface t y]) (by simp [results, Tryz.results119, go_sem]) rfl ⟨⟨(fun e => by rw [HH.out] at e; cases e), fun _ => rfl⟩, tbelow_dn (Below.refl _ _) _⟩
end
variable (ra : Option Addr) (rl rc : Nat) (ea : Option Addr) (el ec : Nat) (ta : Option Addr) (tl tc : Nat) (now : Int)
end Go.Proofs.YtneiihikcnjglaaGreatDoor
/- A fabric at work, written: a transaction put in place of another, one that is open no more, an epoch. -/
namespace Go.Proofs.YtneiihikcnjglaaGreatDoor
open Go.RowKit Go.Maps

theorem pack_set {α : Type} (f : α → List Value) (s : Nat) (hs : ∀ x, (f x).length = s) (l : List α) (k : Nat) (hk : k < l.length) (x : α) (j : Nat) : ((l.set k x).flatMap f)[j]? = if k * s ≤ j ∧ j < k * s + s then (f x)[j - k * s]? else (l.flatMap f)[j]? := by
  induction l generalizing k j with
  | nil => simp at hk
  | cons y l ih =>
    cases k with
    | zero =>
      simp only [List.set_cons_zero, List.flatMap_cons, Nat.zero_mul, Nat.zero_le, true_and, Nat.zero_add, Nat.sub_zero]
      by_cases h : j < s
      · rw [if_pos h, List.getElem?_append_left (by rw [hs]; exact h)]
      · rw [if_neg h, List.getElem?_append_right (by rw [hs]; omega), List.getElem?_append_right (by rw [hs]; omega), hs, hs]
    | succ k =>
      simp only [List.set_cons_succ, List.flatMap_cons]
      have hk' : k < l.length := by simpa using hk
      have e : (k + 1) * s = k * s + s := Nat.succ_mul k s
      by_cases h : j < s
      · rw [List.getElem?_append_left (by rw [hs]; exact h), List.getElem?_append_left (by rw [hs]; exact h), if_neg (by omega)]
      · rw [List.getElem?_append_right (by rw [hs]; omega), List.getElem?_append_right (by rw [hs]; omega), hs, ih k hk' (j - s)]
        by_cases hc : k * s ≤ j - s ∧ j - s < k * s + s
        · rw [if_pos hc, if_pos (by omega), show j - s - k * s = j - (k + 1) * s by omega]
        · rw [if_neg hc, if_neg (by omega)]
theorem tdCells_set (l : List TD) (k : Nat) (hk : k < l.length) (t : TD) :
    tdCells (l.set k t) = ((((((tdCells l).set (k * 6) (.int .i64 t.p)).set (k * 6 + 1) (.int .i64 t.e)).set (k * 6 + 2) (.int .i64 t.s)).set (k * 6 + 3) (.int .i64 t.u)).set (k * 6 + 4) (.slice t.ra t.rl t.rc)).set (k * 6 + 5) (.slice t.la t.ll t.lc) := by
  have hl : (tdCells l).length = l.length * 6 := tdCells_length l
  apply List.ext_getElem?
  intro j
  have h1 : (tdCells (l.set k t))[j]? = if k * 6 ≤ j ∧ j < k * 6 + 6 then t.cells[j - k * 6]? else (tdCells l)[j]? := pack_set TD.cells 6 (fun _ => rfl) l k hk t j
  rw [h1]
  simp only [List.getElem?_set, List.length_set, hl]
  by_cases h : k * 6 ≤ j ∧ j < k * 6 + 6
  · rw [if_pos h]
    obtain ⟨d, hd⟩ : ∃ d, j = k * 6 + d := ⟨j - k * 6, by omega⟩
    subst hd
    have hd6 : d < 6 := by omega
    rw [show k * 6 + d - k * 6 = d by omega]
    rcases (by omega : d = 0 ∨ d = 1 ∨ d = 2 ∨ d = 3 ∨ d = 4 ∨ d = 5) with rfl | rfl | rfl | rfl | rfl | rfl <;> simp [TD.cells] <;> omega
  · rw [if_neg h, if_neg (by omega), if_neg (by omega), if_neg (by omega), if_neg (by omega), if_neg (by omega), if_neg (by omega)]
section
variable {lo : Nat} {u v : World} {B M tb : Nat} {ta : Option Addr} {tl tc : Nat} {ra : Option Addr} {rl rc : Nat} {ea : Option Addr} {el ec : Nat} {now began puts : Int} {ts : List TD} {rs : List RD} {es : List Int} {m : Nat} {D : DataW Unit}
/-- One transaction put in place of another: its lists lie elsewhere. -/
theorem WK.setT (h : WK lo u B M (some ⟨tb, 0, none⟩) tl tc ra rl rc ea el ec now began puts ts rs es m D) (k : Nat) (hk : k < ts.length) (t : TD) (ht : TFit u t) (ho : ∀ X, Mine B M (some ⟨tb, 0, none⟩) ra ea X → t.off X) :
    WK lo (setB6 u tb (k * 6) (.int .i64 t.p) (.int .i64 t.e) (.int .i64 t.s) (.int .i64 t.u) (.slice t.ra t.rl t.rc) (.slice t.la t.ll t.lc)) B M (some ⟨tb, 0, none⟩) tl tc ra rl rc ea el ec now began puts (ts.set k t) rs es m D := by
  have hg := grown_setB6 u tb (k * 6) (.int .i64 t.p) (.int .i64 t.e) (.int .i64 t.s) (.int .i64 t.u) (.slice t.ra t.rl t.rc) (.slice t.la t.ll t.lc)
  have hmine : Mine B M (some ⟨tb, 0, none⟩) ra ea tb := .inr (.inr (.inl rfl))
  have hbt : B ≠ tb := fun e => own_ne h.t (e ▸ h.b) (by decide) rfl
  refine ⟨(hg.block _ (fb_lt h.b) (by simp; exact hbt)).trans h.b, h.m.kept hg (by have := own_ne_map h.t h.m; simp [blk?] at this; simp; omega), ?_, own_keep h.r hg (.inr (own_ne_own h.t h.r (by decide) rfl)), own_keep h.e hg (.inr (own_ne_own h.t h.e (by decide) rfl)), fun q hq => ?_, fun r hr => (h.fr r hr).grown hg (h.or r hr tb hmine).1 (h.or r hr tb hmine).2, fun q hq X hX => ?_, h.or, h.lb, h.lm⟩
  · rw [tdCells_set ts k hk t]
    exact own_setB6 h.t k _ _ _ _ _ _
  · rcases List.mem_or_eq_of_mem_set hq with hq | rfl
    · exact (h.ft q hq).grown hg (h.ot q hq tb hmine)
    · exact ht.grown hg (ho tb hmine)
  · rcases List.mem_or_eq_of_mem_set hq with hq | rfl
    · exact h.ot q hq X hX
    · exact ho X hX
/-- The map is written. -/
theorem WK.setM {m' : Nat} {D' : DataW Unit} (h : WK lo u B M ta tl tc ra rl rc ea el ec now began puts ts rs es m D) (hm : v.ownsMap Tryz.prog 2 (plainElem Tryz.prog 3) M m' D') (hg : u.grownBy v (some M)) : WK lo v B M ta tl tc ra rl rc ea el ec now began puts ts rs es m' D' :=
  ⟨(hg.block _ (fb_lt h.b) (by have := h.bm; simp; omega)).trans h.b, hm, own_keep h.t hg (.inr (own_ne_map h.t h.m)), own_keep h.r hg (.inr (own_ne_map h.r h.m)), own_keep h.e hg (.inr (own_ne_map h.e h.m)), fun t ht => (h.ft t ht).grown hg (h.ot t ht M (.inr (.inl rfl))), fun r hr => (h.fr r hr).grown hg (h.or r hr M (.inr (.inl rfl))).1 (h.or r hr M (.inr (.inl rfl))).2, h.ot, h.or, h.lb, h.lm⟩
end
end Go.Proofs.YtneiihikcnjglaaGreatDoor
/- Fabrics that own their memory, as cells: what the laws' marks make of them. -/
namespace Go.Proofs.YtneiihikcnjglaaGreatDoor
open Go.RowKit
set_option linter.unusedSimpArgs false
set_option linter.unusedVariables false

/-- Nothing old has turned but for the blocks in S. -/
structure Fr (S : Nat → Prop) (w w' : World) : Prop where
  os : w'.os = w.os
  tape : w'.tape = w.tape
  output : w'.output = w.output
  size : w.heap.size ≤ w'.heap.size
  block : ∀ k, k < w.heap.size → ¬ S k → w'.heap[k]? = w.heap[k]?
theorem Fr.refl (S : Nat → Prop) (w : World) : Fr S w w := ⟨rfl, rfl, rfl, Nat.le_refl _, fun _ _ _ => rfl⟩
theorem Fr.trans {S : Nat → Prop} {u v w : World} (h : Fr S u v) (k : Fr S v w) : Fr S u w :=
  ⟨k.os.trans h.os, k.tape.trans h.tape, k.output.trans h.output, Nat.le_trans h.size k.size, fun i hi hs => (k.block i (Nat.lt_of_lt_of_le hi h.size) hs).trans (h.block i hi hs)⟩
theorem Fr.ofGrown {S : Nat → Prop} {w w' : World} {row : Option Nat} (h : w.grownBy w' row) (hr : ∀ X, row = some X → S X) : Fr S w w' :=
  ⟨h.os, h.tape, h.output, h.size, fun k hk hs => h.block k hk (fun e => hs (hr k e.symm))⟩
theorem Fr.ofBelow {w w' : World} (h : Below w.heap.size w w') (S : Nat → Prop) : Fr S w w' := ⟨h.os, h.tape, h.output, h.size, fun k hk _ => h.block k hk⟩
theorem Fr.mono {S T : Nat → Prop} {w w' : World} (h : Fr S w w') (hs : ∀ X, S X → T X) : Fr T w w' := ⟨h.os, h.tape, h.output, h.size, fun k hk ht => h.block k hk (fun e => ht (hs k e))⟩
theorem Fr.below {S : Nat → Prop} {N : Nat} {w u v : World} (h : Below N w u) (hN : N ≤ u.heap.size) (k : Fr S u v) (hs : ∀ X, S X → N ≤ X) : Below N w v :=
  ⟨k.os.trans h.os, k.tape.trans h.tape, k.output.trans h.output, Nat.le_trans h.size k.size, fun i hi => (k.block i (Nat.lt_of_lt_of_le hi hN) (fun e => by have := hs i e; omega)).trans (h.block i hi)⟩
theorem Fr.own {S : Nat → Prop} {w w' : World} (h : Fr S w w') {base e size n c : Nat} {a : Option Addr} {xs : List Value} (ho : w.ownsRow base e size (.slice a n c) n xs) (hs : ∀ X, blk? a = some X → ¬ S X) : w'.ownsRow base e size (.slice a n c) n xs := by
  refine ⟨ho.1, ?_⟩
  rcases ho.2 with hn | ⟨g, cap, cur, hv, hb, hg, rest⟩
  · exact .inl hn
  · have hX : blk? a = some g := by
      simp only [Value.slice.injEq] at hv
      rw [hv.1]; rfl
    exact .inr ⟨g, cap, cur, hv, hb, (h.block g (Array.getElem?_eq_some_iff.1 hg).1 (hs g hX)).trans hg, rest⟩
theorem Fr.blk {S : Nat → Prop} {w w' : World} (h : Fr S w w') {X : Nat} {o : Obj} (ho : w.heap[X]? = some o) (hs : ¬ S X) : w'.heap[X]? = some o := (h.block X (Array.getElem?_eq_some_iff.1 ho).1 hs).trans ho
/-- A ring as cells. -/
structure RX where
  c : Int
  f : Int
  ra : Option Addr
  rl : Nat
  rc : Nat
  ca : Option Addr
  cl : Nat
  cc : Nat
  xs : List Value
  ys : List Value
/-- A transaction as cells. -/
structure TXN where
  p : Int
  e : Int
  s : Int
  u : Int
  ra : Option Addr
  rl : Nat
  rc : Nat
  la : Option Addr
  ll : Nat
  lc : Nat
  xs : List Value
  ys : List Value
def RX.cells (x : RX) : List Value := [.int .i64 x.c, .int .i64 x.f, .slice x.ra x.rl x.rc, .slice x.ca x.cl x.cc]
def TXN.cells (t : TXN) : List Value := [.int .i64 t.p, .int .i64 t.e, .int .i64 t.s, .int .i64 t.u, .slice t.ra t.rl t.rc, .slice t.la t.ll t.lc]
def RX.own (x : RX) (w : World) (base : Nat) : Prop := OwnRing w base x.ra x.rl x.rc x.ca x.cl x.cc x.xs x.ys
def TXN.own (t : TXN) (w : World) (base : Nat) : Prop := OwnTxn w base t.ra t.rl t.rc t.la t.ll t.lc t.xs t.ys
def RX.blks (r : RX) : List Nat := (blk? r.ra).toList ++ (blk? r.ca).toList
def TXN.blks (t : TXN) : List Nat := (blk? t.ra).toList ++ (blk? t.la).toList
def RX.cnt (x : RX) : Nat := 2 + x.rl + x.cl * 2
def TXN.cnt (t : TXN) : Nat := 4 + t.rl + t.ll
def RX.mark (K : Nat) (x : RX) : RX := ⟨(K : Nat), (K + 1 : Nat), x.ra, x.rl, x.rc, x.ca, x.cl, x.cc, mStr (K + 2) x.xs x.rl, mCur (K + 2 + x.rl) x.ys (x.cl * 2)⟩
def TXN.mark (K : Nat) (t : TXN) : TXN := ⟨(K : Nat), (K + 1 : Nat), (K + 2 : Nat), (K + 3 : Nat), t.ra, t.rl, t.rc, t.la, t.ll, t.lc, mNum (K + 4) t.xs t.rl, mNum (K + 4 + t.rl) t.ys t.ll⟩
def RD.x (r : RD) : RX := ⟨r.cap, r.first, r.ra, r.rl, r.rc, r.ca, r.cl, r.cc, r.recs.map Value.string, curCells r.curs⟩
def TD.x (t : TD) : TXN := ⟨t.p, t.e, t.s, t.u, t.ra, t.rl, t.rc, t.la, t.ll, t.lc, numCells t.rs, numCells t.ls⟩
/-- The first k of a list marked, from K on. -/
def mTo {α : Type} (f : Nat → α → α) (c : α → Nat) (K : Nat) (l : List α) (k : Nat) : List α := l.mapIdx fun j x => if j < k then f (K + szSum c (l.take j)) x else x
section
variable {α : Type} {f : Nat → α → α} {c : α → Nat} {K : Nat} {l : List α}
theorem mTo_zero : mTo f c K l 0 = l := by
  apply List.ext_getElem?
  intro j
  simp [mTo]
theorem mTo_length (k : Nat) : (mTo f c K l k).length = l.length := by simp [mTo]
theorem mTo_get (k j : Nat) : (mTo f c K l k)[j]? = (l[j]?).map fun x => if j < k then f (K + szSum c (l.take j)) x else x := by simp [mTo]
theorem mTo_set {k : Nat} {x : α} (h : l[k]? = some x) : (mTo f c K l k).set k (f (K + szSum c (l.take k)) x) = mTo f c K l (k + 1) := by
  have hk := (List.getElem?_eq_some_iff.1 h).1
  apply List.ext_getElem?
  intro j
  by_cases hj : k = j
  · subst hj
    rw [List.getElem?_set_self (by rw [mTo_length]; exact hk), mTo_get, h]
    simp
  · rw [List.getElem?_set_ne hj, mTo_get, mTo_get]
    cases l[j]? with
    | none => rfl
    | some y =>
      by_cases h1 : j < k
      · have h2 : j < k + 1 := by omega
        simp [h1, h2]
      · have h2 : ¬ j < k + 1 := by omega
        simp [h1, h2]
theorem mTo_at {k : Nat} {x : α} (h : l[k]? = some x) : (mTo f c K l k)[k]? = some x := by rw [mTo_get, h]; simp
theorem mTo_all {k n : Nat} {x : α} (h : l[k]? = some x) (hn : k < n) : (mTo f c K l n)[k]? = some (f (K + szSum c (l.take k)) x) := by rw [mTo_get, h]; simp [hn]
theorem mTo_map {β : Type} (g : α → β) (hg : ∀ K x, g (f K x) = g x) (k : Nat) : (mTo f c K l k).map g = l.map g := by
  apply List.ext_getElem?
  intro j
  rw [List.getElem?_map, List.getElem?_map, mTo_get]
  cases l[j]? with
  | none => rfl
  | some y =>
    by_cases h1 : j < k
    · simp [h1, hg]
    · simp [h1]
theorem flat_map {β : Type} (g : α → List β) (m : List α) (h : m.map g = l.map g) : m.flatMap g = l.flatMap g := by rw [List.flatMap_def, List.flatMap_def, h]
end
theorem flat_mem {α β : Type} {g : α → List β} {l : List α} {j : Nat} {x : α} (h : l[j]? = some x) {X : β} (hX : X ∈ g x) : X ∈ l.flatMap g := List.mem_flatMap.2 ⟨x, List.mem_of_getElem? h, hX⟩
theorem flat_apart {α β : Type} {g : α → List β} {l : List α} (hn : (l.flatMap g).Nodup) {i j : Nat} {x y : α} (hx : l[i]? = some x) (hy : l[j]? = some y) (hij : i ≠ j) {X : β} (h1 : X ∈ g x) (h2 : X ∈ g y) : False := by
  induction l generalizing i j with
  | nil => simp at hx
  | cons z l ih =>
    rw [List.flatMap_cons] at hn
    obtain ⟨n1, n2, n3⟩ := List.nodup_append.1 hn
    cases i with
    | zero =>
      cases j with
      | zero => exact hij rfl
      | succ j =>
        simp only [List.getElem?_cons_zero, Option.some.injEq, List.getElem?_cons_succ] at hx hy
        subst hx
        exact n3 X h1 X (flat_mem hy h2) rfl
    | succ i =>
      cases j with
      | zero =>
        simp only [List.getElem?_cons_zero, Option.some.injEq, List.getElem?_cons_succ] at hx hy
        subst hy
        exact n3 X h2 X (flat_mem hx h1) rfl
      | succ j =>
        simp only [List.getElem?_cons_succ] at hx hy
        exact ih n2 hx hy (fun e => hij (by omega))
section
variable {w w' : World} {base : Nat}
theorem RX.own.lt {r : RX} {X : Nat} (h : r.own w base) (hX : X ∈ r.blks) : base ≤ X ∧ X < w.heap.size := by
  simp only [RX.blks, List.mem_append, Option.mem_toList] at hX
  rcases hX with hX | hX
  · exact own_blk_lt h.1 hX
  · exact own_blk_lt h.2 hX
theorem TXN.own.lt {t : TXN} {X : Nat} (h : t.own w base) (hX : X ∈ t.blks) : base ≤ X ∧ X < w.heap.size := by
  simp only [TXN.blks, List.mem_append, Option.mem_toList] at hX
  rcases hX with hX | hX
  · exact own_blk_lt h.1 hX
  · exact own_blk_lt h.2.1 hX
theorem RX.own.fr {r : RX} {S : Nat → Prop} (h : r.own w base) (hf : Fr S w w') (hs : ∀ X ∈ r.blks, ¬ S X) : r.own w' base :=
  ⟨hf.own h.1 fun X hX => hs X (by simp [RX.blks, hX]), hf.own h.2 fun X hX => hs X (by simp [RX.blks, hX])⟩
theorem TXN.own.fr {t : TXN} {S : Nat → Prop} (h : t.own w base) (hf : Fr S w w') (hs : ∀ X ∈ t.blks, ¬ S X) : t.own w' base :=
  ⟨hf.own h.1 fun X hX => hs X (by simp [TXN.blks, hX]), hf.own h.2.1 fun X hX => hs X (by simp [TXN.blks, hX]), h.2.2⟩
theorem RX.own.not {r : RX} {B : Nat} {C : Array Value} {T : TypeId} (h : r.own w base) (hB : w.heap[B]? = some (.cells C T (0, 0))) (h1 : 9 ≠ T) (h2 : 109 ≠ T) : B ∉ r.blks := fun hX => by
  simp only [RX.blks, List.mem_append, Option.mem_toList] at hX
  rcases hX with hX | hX
  · exact own_ne h.1 hB h1 hX
  · exact own_ne h.2 hB h2 hX
theorem TXN.own.not {t : TXN} {B : Nat} {C : Array Value} {T : TypeId} (h : t.own w base) (hB : w.heap[B]? = some (.cells C T (0, 0))) (h1 : 2 ≠ T) : B ∉ t.blks := fun hX => by
  simp only [TXN.blks, List.mem_append, Option.mem_toList] at hX
  rcases hX with hX | hX
  · exact own_ne h.1 hB h1 hX
  · exact own_ne h.2.1 hB h1 hX
end
def rxCells (l : List RX) : List Value := l.flatMap RX.cells
def txCells (l : List TXN) : List Value := l.flatMap TXN.cells
theorem rxCells_length (l : List RX) : (rxCells l).length = l.length * 4 := pack_length _ 4 (fun _ => rfl) l
theorem txCells_length (l : List TXN) : (txCells l).length = l.length * 6 := pack_length _ 6 (fun _ => rfl) l
theorem rxCells_at {l : List RX} {i : Nat} {x : RX} (h : l[i]? = some x) (j : Nat) (hj : j < 4) : (rxCells l)[i * 4 + j]? = x.cells[j]? := by
  obtain ⟨hi, e⟩ := List.getElem?_eq_some_iff.1 h
  rw [← e]
  exact pack_at _ 4 (fun _ => rfl) l i j hi hj
theorem txCells_at {l : List TXN} {i : Nat} {x : TXN} (h : l[i]? = some x) (j : Nat) (hj : j < 6) : (txCells l)[i * 6 + j]? = x.cells[j]? := by
  obtain ⟨hi, e⟩ := List.getElem?_eq_some_iff.1 h
  rw [← e]
  exact pack_at _ 6 (fun _ => rfl) l i j hi hj
theorem rxCells_set {l : List RX} {k : Nat} {x y : RX} (h : l[k]? = some x) (h1 : y.ra = x.ra ∧ y.rl = x.rl ∧ y.rc = x.rc) (h2 : y.ca = x.ca ∧ y.cl = x.cl ∧ y.cc = x.cc) :
    rxCells (l.set k y) = ((rxCells l).set (k * 4) (.int .i64 y.c)).set (k * 4 + 1) (.int .i64 y.f) := by
  have hk := (List.getElem?_eq_some_iff.1 h).1
  have hl : (rxCells l).length = l.length * 4 := rxCells_length l
  apply List.ext_getElem?
  intro j
  rw [show (rxCells (l.set k y))[j]? = if k * 4 ≤ j ∧ j < k * 4 + 4 then y.cells[j - k * 4]? else (rxCells l)[j]? from pack_set RX.cells 4 (fun _ => rfl) l k hk y j]
  simp only [List.getElem?_set, List.length_set, hl]
  by_cases hj : k * 4 ≤ j ∧ j < k * 4 + 4
  · rw [if_pos hj]
    obtain ⟨d, hd⟩ : ∃ d, j = k * 4 + d := ⟨j - k * 4, by omega⟩
    subst hd
    have hd4 : d < 4 := by omega
    rw [show k * 4 + d - k * 4 = d by omega, rxCells_at h d hd4]
    rcases (by omega : d = 0 ∨ d = 1 ∨ d = 2 ∨ d = 3) with rfl | rfl | rfl | rfl <;> simp [RX.cells, h1, h2] <;> omega
  · rw [if_neg hj, if_neg (by omega), if_neg (by omega)]
theorem txCells_set {l : List TXN} {k : Nat} {x y : TXN} (h : l[k]? = some x) (h1 : y.ra = x.ra ∧ y.rl = x.rl ∧ y.rc = x.rc) (h2 : y.la = x.la ∧ y.ll = x.ll ∧ y.lc = x.lc) :
    txCells (l.set k y) = ((((txCells l).set (k * 6) (.int .i64 y.p)).set (k * 6 + 1) (.int .i64 y.e)).set (k * 6 + 2) (.int .i64 y.s)).set (k * 6 + 3) (.int .i64 y.u) := by
  have hk := (List.getElem?_eq_some_iff.1 h).1
  have hl : (txCells l).length = l.length * 6 := txCells_length l
  apply List.ext_getElem?
  intro j
  rw [show (txCells (l.set k y))[j]? = if k * 6 ≤ j ∧ j < k * 6 + 6 then y.cells[j - k * 6]? else (txCells l)[j]? from pack_set TXN.cells 6 (fun _ => rfl) l k hk y j]
  simp only [List.getElem?_set, List.length_set, hl]
  by_cases hj : k * 6 ≤ j ∧ j < k * 6 + 6
  · rw [if_pos hj]
    obtain ⟨d, hd⟩ : ∃ d, j = k * 6 + d := ⟨j - k * 6, by omega⟩
    subst hd
    have hd6 : d < 6 := by omega
    rw [show k * 6 + d - k * 6 = d by omega, txCells_at h d hd6]
    rcases (by omega : d = 0 ∨ d = 1 ∨ d = 2 ∨ d = 3 ∨ d = 4 ∨ d = 5) with rfl | rfl | rfl | rfl | rfl | rfl <;> simp [TXN.cells, h1, h2] <;> omega
  · rw [if_neg hj, if_neg (by omega), if_neg (by omega), if_neg (by omega), if_neg (by omega)]
/-- What stands while rings are marked: m so far. -/
structure MR (w wr : World) (base : Nat) (g n c : Nat) (l m : List RX) : Prop where
  r : wr.ownsRow base 92 4 (.slice (some ⟨g, 0, none⟩) n c) n (rxCells m)
  o : ∀ (j : Nat) (x : RX), m[j]? = some x → x.own wr base
  b : m.map RX.blks = l.map RX.blks
  f : Fr (fun X => X = g ∨ X ∈ l.flatMap RX.blks) w wr
theorem MR.round {w u v x : World} {base g n c : Nat} {l m : List RX} {k : Nat} {p q : RX} (h : MR w u base g n c l m) (nd : (l.flatMap RX.blks).Nodup) (hk : m[k]? = some p) (h1 : q.ra = p.ra ∧ q.rl = p.rl ∧ q.rc = p.rc) (h2 : q.ca = p.ca ∧ q.cl = p.cl ∧ q.cc = p.cc)
    (hg1 : ((u.setCell ⟨g, k * 4, none⟩ (.int .i64 q.c)).setCell ⟨g, k * 4 + 1, none⟩ (.int .i64 q.f)).grownBy v (blk? p.ra)) (hx : v.ownsRow base 9 1 (.slice p.ra p.rl p.rc) p.rl q.xs) (hg2 : v.grownBy x (blk? p.ca)) (hy : x.ownsRow base 109 2 (.slice p.ca p.cl p.cc) p.cl q.ys) : MR w x base g n c l (m.set k q) := by
  have hkl := (List.getElem?_eq_some_iff.1 hk).1
  have hp : p.own u base := h.o k p hk
  obtain ⟨hs1, hs2⟩ := h.r.stored (k * 4) (.int .i64 q.c)
  obtain ⟨hs3, hs4⟩ := hs1.stored (k * 4 + 1) (.int .i64 q.f)
  rw [← rxCells_set hk h1 h2] at hs3
  have hgr : ∀ X, blk? p.ra = some X → X ≠ g := fun X hX e => by
    subst e
    obtain ⟨C, hC⟩ := own_typed h.r (X := X) rfl
    exact own_ne hp.1 hC (by decide) hX
  have hgc : ∀ X, blk? p.ca = some X → X ≠ g := fun X hX e => by
    subst e
    obtain ⟨C, hC⟩ := own_typed h.r (X := X) rfl
    exact own_ne hp.2 hC (by decide) hX
  have hrc : ∀ X, blk? p.ca = some X → blk? p.ra ≠ some X := fun X hX hr => own_ne_own hp.1 hp.2 (by decide) hr hX
  have hnd : (m.flatMap RX.blks).Nodup := by rw [flat_map RX.blks m h.b]; exact nd
  have hin : ∀ X, X ∈ p.blks → X ∈ l.flatMap RX.blks := fun X hX => by rw [← flat_map RX.blks m h.b]; exact flat_mem hk hX
  have hr' : v.ownsRow base 92 4 (.slice (some ⟨g, 0, none⟩) n c) n (rxCells (m.set k q)) := own_keep hs3 hg1 (by
    by_cases e : blk? p.ra = none
    · exact .inl e
    · obtain ⟨Z, hZ⟩ := Option.ne_none_iff_exists'.1 e
      exact .inr (by rw [hZ]; show some g ≠ some Z; intro e; exact hgr Z hZ (Option.some.inj e).symm))
  have hr'' : x.ownsRow base 92 4 (.slice (some ⟨g, 0, none⟩) n c) n (rxCells (m.set k q)) := own_keep hr' hg2 (by
    by_cases e : blk? p.ca = none
    · exact .inl e
    · obtain ⟨Z, hZ⟩ := Option.ne_none_iff_exists'.1 e
      exact .inr (by rw [hZ]; show some g ≠ some Z; intro e; exact hgc Z hZ (Option.some.inj e).symm))
  have hF : Fr (fun X => X = g ∨ X ∈ p.blks) u x :=
    ((Fr.ofGrown (hs2.trans hs4) (fun X e => .inl (by simp at e; exact e.symm))).trans (Fr.ofGrown hg1 (fun X e => .inr (by simp [RX.blks, e])))).trans (Fr.ofGrown hg2 (fun X e => .inr (by simp [RX.blks, e])))
  refine ⟨hr'', fun j y hj => ?_, ?_, h.f.trans (hF.mono fun X hX => ?_)⟩
  · by_cases e : k = j
    · subst e
      rw [List.getElem?_set_self hkl] at hj
      cases hj
      refine ⟨?_, ?_⟩
      · rw [h1.1, h1.2.1, h1.2.2]
        exact own_keep hx hg2 (by
          by_cases e : blk? p.ca = none
          · exact .inl e
          · obtain ⟨Z, hZ⟩ := Option.ne_none_iff_exists'.1 e
            exact .inr (by rw [hZ]; exact hrc Z hZ))
      · rw [h2.1, h2.2.1, h2.2.2]
        exact hy
    · rw [List.getElem?_set_ne e] at hj
      refine (h.o j y hj).fr hF fun X hX hS => ?_
      rcases hS with rfl | hS
      · obtain ⟨C, hC⟩ := own_typed h.r (X := X) rfl
        exact (h.o j y hj).not hC (by decide) (by decide) hX
      · exact flat_apart hnd hk hj e hS hX
  · rw [List.map_set, h.b]
    apply List.ext_getElem?
    intro j
    by_cases e : k = j
    · subst e
      have hb := congrArg (fun z => z[k]?) h.b
      simp only [List.getElem?_map, hk, Option.map_some] at hb
      have hkl2 : k < l.length := by have := congrArg List.length h.b; simp at this; omega
      rw [List.getElem?_set_self (by simpa using hkl2), List.getElem?_map, ← hb]
      simp [RX.blks, h1.1, h2.1]
    · rw [List.getElem?_set_ne e]
  · rcases hX with hX | hX
    · exact .inl hX
    · exact .inr (hin X hX)
/-- What stands while transactions are marked: m so far. -/
structure MT (w wr : World) (base : Nat) (g n c : Nat) (l m : List TXN) : Prop where
  r : wr.ownsRow base 67 6 (.slice (some ⟨g, 0, none⟩) n c) n (txCells m)
  o : ∀ (j : Nat) (x : TXN), m[j]? = some x → x.own wr base
  b : m.map TXN.blks = l.map TXN.blks
  f : Fr (fun X => X = g ∨ X ∈ l.flatMap TXN.blks) w wr
theorem MT.round {w u v x : World} {base g n c : Nat} {l m : List TXN} {k : Nat} {p q : TXN} (h : MT w u base g n c l m) (nd : (l.flatMap TXN.blks).Nodup) (hk : m[k]? = some p) (h1 : q.ra = p.ra ∧ q.rl = p.rl ∧ q.rc = p.rc) (h2 : q.la = p.la ∧ q.ll = p.ll ∧ q.lc = p.lc)
    (hg1 : ((((u.setCell ⟨g, k * 6, none⟩ (.int .i64 q.p)).setCell ⟨g, k * 6 + 1, none⟩ (.int .i64 q.e)).setCell ⟨g, k * 6 + 2, none⟩ (.int .i64 q.s)).setCell ⟨g, k * 6 + 3, none⟩ (.int .i64 q.u)).grownBy v (blk? p.ra)) (hx : v.ownsRow base 2 1 (.slice p.ra p.rl p.rc) p.rl q.xs) (hg2 : v.grownBy x (blk? p.la)) (hy : x.ownsRow base 2 1 (.slice p.la p.ll p.lc) p.ll q.ys) : MT w x base g n c l (m.set k q) := by
  have hkl := (List.getElem?_eq_some_iff.1 hk).1
  have hp : p.own u base := h.o k p hk
  obtain ⟨hs1, hs2⟩ := h.r.stored (k * 6) (.int .i64 q.p)
  obtain ⟨hs3, hs4⟩ := hs1.stored (k * 6 + 1) (.int .i64 q.e)
  obtain ⟨hs5, hs6⟩ := hs3.stored (k * 6 + 2) (.int .i64 q.s)
  obtain ⟨hs7, hs8⟩ := hs5.stored (k * 6 + 3) (.int .i64 q.u)
  rw [← txCells_set hk h1 h2] at hs7
  have hgr : ∀ X, blk? p.ra = some X → X ≠ g := fun X hX e => by
    subst e
    obtain ⟨C, hC⟩ := own_typed h.r (X := X) rfl
    exact own_ne hp.1 hC (by decide) hX
  have hgc : ∀ X, blk? p.la = some X → X ≠ g := fun X hX e => by
    subst e
    obtain ⟨C, hC⟩ := own_typed h.r (X := X) rfl
    exact own_ne hp.2.1 hC (by decide) hX
  have hrc : ∀ X, blk? p.la = some X → blk? p.ra ≠ some X := fun X hX hr => by
    have h3 := hp.2.2 X (by rw [ownBlock_slice]; exact hr)
    rw [ownBlock_slice] at h3
    exact h3 hX
  have hnd : (m.flatMap TXN.blks).Nodup := by rw [flat_map TXN.blks m h.b]; exact nd
  have hin : ∀ X, X ∈ p.blks → X ∈ l.flatMap TXN.blks := fun X hX => by rw [← flat_map TXN.blks m h.b]; exact flat_mem hk hX
  have hr' : v.ownsRow base 67 6 (.slice (some ⟨g, 0, none⟩) n c) n (txCells (m.set k q)) := own_keep hs7 hg1 (by
    by_cases e : blk? p.ra = none
    · exact .inl e
    · obtain ⟨Z, hZ⟩ := Option.ne_none_iff_exists'.1 e
      exact .inr (by rw [hZ]; show some g ≠ some Z; intro e; exact hgr Z hZ (Option.some.inj e).symm))
  have hr'' : x.ownsRow base 67 6 (.slice (some ⟨g, 0, none⟩) n c) n (txCells (m.set k q)) := own_keep hr' hg2 (by
    by_cases e : blk? p.la = none
    · exact .inl e
    · obtain ⟨Z, hZ⟩ := Option.ne_none_iff_exists'.1 e
      exact .inr (by rw [hZ]; show some g ≠ some Z; intro e; exact hgc Z hZ (Option.some.inj e).symm))
  have hF : Fr (fun X => X = g ∨ X ∈ p.blks) u x :=
    ((Fr.ofGrown (((hs2.trans hs4).trans hs6).trans hs8) (fun X e => .inl (by simp at e; exact e.symm))).trans (Fr.ofGrown hg1 (fun X e => .inr (by simp [TXN.blks, e])))).trans (Fr.ofGrown hg2 (fun X e => .inr (by simp [TXN.blks, e])))
  refine ⟨hr'', fun j y hj => ?_, ?_, h.f.trans (hF.mono fun X hX => ?_)⟩
  · by_cases e : k = j
    · subst e
      rw [List.getElem?_set_self hkl] at hj
      cases hj
      refine ⟨?_, ?_, ?_⟩
      · rw [h1.1, h1.2.1, h1.2.2]
        exact own_keep hx hg2 (by
          by_cases e : blk? p.la = none
          · exact .inl e
          · obtain ⟨Z, hZ⟩ := Option.ne_none_iff_exists'.1 e
            exact .inr (by rw [hZ]; exact hrc Z hZ))
      · rw [h2.1, h2.2.1, h2.2.2]
        exact hy
      · rw [h1.1, h1.2.1, h1.2.2, h2.1, h2.2.1, h2.2.2]
        exact hp.2.2
    · rw [List.getElem?_set_ne e] at hj
      refine (h.o j y hj).fr hF fun X hX hS => ?_
      rcases hS with rfl | hS
      · obtain ⟨C, hC⟩ := own_typed h.r (X := X) rfl
        exact (h.o j y hj).not hC (by decide) hX
      · exact flat_apart hnd hk hj e hS hX
  · rw [List.map_set, h.b]
    apply List.ext_getElem?
    intro j
    by_cases e : k = j
    · subst e
      have hb := congrArg (fun z => z[k]?) h.b
      simp only [List.getElem?_map, hk, Option.map_some] at hb
      have hkl2 : k < l.length := by have := congrArg List.length h.b; simp at this; omega
      rw [List.getElem?_set_self (by simpa using hkl2), List.getElem?_map, ← hb]
      simp [TXN.blks, h1.1, h2.1]
    · rw [List.getElem?_set_ne e]
  · rcases hX with hX | hX
    · exact .inl hX
    · exact .inr (hin X hX)
end Go.Proofs.YtneiihikcnjglaaGreatDoor
/- The laws' marks on rows of rings and of transactions that own their memory. -/
namespace Go.Proofs.YtneiihikcnjglaaGreatDoor
open Go.RowKit
set_option linter.unusedSimpArgs false
set_option linter.unusedVariables false

theorem szSum_lt {α : Type} {c : α → Nat} {l : List α} {k : Nat} {x : α} (h : l[k]? = some x) : szSum c (l.take k) + c x ≤ szSum c l := by
  have h1 := szSum_take c l (k + 1)
  rw [szSum_succ h] at h1
  exact h1
theorem szSum_len {α : Type} {c : α → Nat} {l : List α} (h : ∀ x, 1 ≤ c x) : l.length ≤ szSum c l := by
  induction l with
  | nil => simp
  | cons x t ih =>
    have h1 := h x
    have e : szSum c (x :: t) = c x + szSum c t := by simp [szSum]
    rw [e, List.length_cons]
    omega
set_option maxHeartbeats 2000000 in
theorem law_markRingsX (a : Option Addr) (n c base : Nat) (l : List RX) (K : Nat) (w : World) (hr : w.ownsRow base 92 4 (.slice a n c) n (rxCells l)) (ho : ∀ (j : Nat) (x : RX), l[j]? = some x → x.own w base) (nd : (l.flatMap RX.blks).Nodup) (hK : 0 < K) (hm : K + szSum RX.cnt l ≤ 100000000) :
    Calls Tryz.prog 58 #[.slice a n c, .int .i64 K] w fun e w' => e = .returned (.int .i64 ((K + szSum RX.cnt l : Nat) : Int)) ∧ w'.ownsRow base 92 4 (.slice a n c) n (rxCells (mTo RX.mark RX.cnt K l n)) ∧ (∀ (j : Nat) (x : RX), (mTo RX.mark RX.cnt K l n)[j]? = some x → x.own w' base) ∧ Fr (fun X => blk? a = some X ∨ X ∈ l.flatMap RX.blks) w w' := by
  have hlen : l.length = n := by have h := hr.1; rw [rxCells_length] at h; omega
  have HR : Hid (w.ownsRow base 92 4 (.slice a n c) n (rxCells l)) := hr
  have HO : Hid (∀ (j : Nat) (x : RX), l[j]? = some x → x.own w base) := ho
  have HND : Hid ((l.flatMap RX.blks).Nodup) := nd
  have HM : Hid (K + szSum RX.cnt l ≤ 100000000) := hm
  have HLN : Hid (l.length = n) := hlen
  have hnl : n ≤ 100000000 := by have h1 := szSum_len (c := RX.cnt) (l := l) (fun x => by unfold RX.cnt; omega); omega
  clear hr ho nd hm hlen
  by_cases h0 : n = 0
  · subst h0
    have hl0 : l = [] := List.eq_nil_of_length_eq_zero HLN.out
    subst hl0
    go_enter Tryz.func58, Tryz.ntmps58
    go_wp2
    go_loopw [1, 5] (fun q i wr => i = .int .i64 0 ∧ q = .int .i64 (K : Int) ∧ wr = w) (fun _ _ _ => 0)
    case atStart => exact ⟨rfl, rfl, rfl⟩
    case round =>
      obtain ⟨rfl, rfl, rfl⟩ := hrel
      go_wp2
      go_ret
      exact ⟨ret_int (by simp [szSum]), HR.out, (fun j x h => by simp [mTo] at h), Fr.refl _ _⟩
  obtain ⟨g, rfl⟩ := own_form HR.out (by omega)
  go_enter Tryz.func58, Tryz.ntmps58
  go_wp2
  go_loopw [1, 5] (fun q i wr => ∃ k : Nat, k ≤ n ∧ i = .int .i64 k ∧ q = .int .i64 ((K + szSum RX.cnt (l.take k) : Nat) : Int) ∧ Hid (MR w wr base g n c l (mTo RX.mark RX.cnt K l k))) (fun _ i _ => n - (intOf i).toNat)
  case atStart => exact ⟨0, by omega, rfl, by simp [szSum], ⟨by rw [mTo_zero]; exact HR.out, by rw [mTo_zero]; exact HO.out, by rw [mTo_zero], Fr.refl _ _⟩⟩
  case round =>
    obtain ⟨k, hk, rfl, rfl, ho⟩ := hrel
    by_cases hlt : k < n
    · obtain ⟨x, hx⟩ : ∃ x, l[k]? = some x := ⟨_, List.getElem?_eq_getElem (by rw [HLN.out]; exact hlt)⟩
      have hmx : (mTo RX.mark RX.cnt K l k)[k]? = some x := mTo_at hx
      have HS : Hid _ := mTo_set (f := RX.mark) (c := RX.cnt) (K := K) hx
      have hsl := szSum_lt (c := RX.cnt) hx
      have HSN : Hid (szSum RX.cnt (l.take (k + 1)) = szSum RX.cnt (l.take k) + RX.cnt x) := szSum_succ hx
      obtain ⟨Q, hQ⟩ : ∃ Q, K + szSum RX.cnt (l.take k) = Q := ⟨_, rfl⟩
      have hQm : Q + RX.cnt x ≤ 100000000 := by have := HM.out; omega
      have HQ : Hid (K + szSum RX.cnt (l.take k) = Q) := hQ
      rw [hQ] at HS ⊢
      have hQ0 : 0 < Q := by omega
      have hcx : RX.cnt x = 2 + x.rl + x.cl * 2 := rfl
      rw [hcx] at hQm
      have hcl0 := (ho.out.r.cellAt (k * 4) (by omega)).trans ((congrArg (fun j => (rxCells (mTo RX.mark RX.cnt K l k))[j]?) (Nat.add_zero _).symm).trans (rxCells_at hmx 0 (by omega)))
      have hcl1 := (ho.out.r.cellAt (k * 4 + 1) (by omega)).trans (rxCells_at hmx 1 (by omega))
      have hcl2 := (ho.out.r.cellAt (k * 4 + 2) (by omega)).trans (rxCells_at hmx 2 (by omega))
      have hcl3 := (ho.out.r.cellAt (k * 4 + 3) (by omega)).trans (rxCells_at hmx 3 (by omega))
      have hfr := fun o => ho.out.r.frozenAt o
      simp only [RX.cells, List.getElem?_cons_zero, List.getElem?_cons_succ] at hcl0 hcl1 hcl2 hcl3
      have HX : Hid (x.own wr base) := ho.out.o k x hmx
      have HMX : Hid ((mTo RX.mark RX.cnt K l k)[k]? = some x) := hmx
      have hbl := ho.out.r.lt g rfl
      have HGT : Hid (∃ C, wr.heap[g]? = some (.cells C 92 (0, 0))) := own_typed ho.out.r (X := g) rfl
      clear hx hmx hQ hsl hcx
      have HXS : Hid (∀ v0 v1, ((wr.setCell ⟨g, k * 4, none⟩ v0).setCell ⟨g, k * 4 + 1, none⟩ v1).ownsRow base 9 1 (.slice x.ra x.rl x.rc) x.rl x.xs ∧ ((wr.setCell ⟨g, k * 4, none⟩ v0).setCell ⟨g, k * 4 + 1, none⟩ v1).ownsRow base 109 2 (.slice x.ca x.cl x.cc) x.cl x.ys) := fun v0 v1 => by
        obtain ⟨C, hC⟩ := HGT.out
        have hg := (grown_setc wr g (k * 4) v0).trans (grown_setc _ g (k * 4 + 1) v1)
        exact ⟨own_keep HX.out.1 hg (.inr (own_ne HX.out.1 hC (by decide))), own_keep HX.out.2 hg (.inr (own_ne HX.out.2 hC (by decide)))⟩
      go_wp2_with fail
      refine (law_markStrs x.ra x.rl x.rc base x.xs (Q + 2) _ (HXS.out _ _).1 (by omega) (by omega)).mono ?_
      rintro e w1 ⟨rfl, ho1, hg1⟩
      have H1 : Hid _ := ho1
      have hg1b := hg1
      rw [ownBlock_slice] at hg1b
      have HG1 : Hid _ := hg1b
      have hd3 : w1.cell? ⟨g, k * 4 + 3, none⟩ = some (.slice x.ca x.cl x.cc) := by
        obtain ⟨C, hC⟩ := HGT.out
        refine (grown_cell hg1 (by simpa [World.setCell] using hbl.2) (fun e => ?_) _).trans ?_
        · rw [ownBlock_slice] at e
          exact own_ne HX.out.1 hC (by decide) e.symm
        · rw [World.cell?_setCell_other _ _ _ _ (by simp), World.cell?_setCell_other _ _ _ _ (by simp)]
          exact hcl3
      have HY1 : Hid (w1.ownsRow base 109 2 (.slice x.ca x.cl x.cc) x.cl x.ys) := own_keep (HXS.out _ _).2 hg1b (by
        by_cases e : blk? x.ra = none
        · exact .inl e
        · obtain ⟨Z, hZ⟩ := Option.ne_none_iff_exists'.1 e
          exact .inr (by rw [hZ]; exact own_ne_own HX.out.1 HX.out.2 (by decide) hZ))
      clear ho1 hg1 hg1b hcl0 hcl1 hcl2 hcl3 hfr
      go_wp2_with fail
      refine (law_markCurs x.ca x.cl x.cc base x.ys (Q + 2 + x.rl) _ HY1.out (by omega) (by omega)).mono ?_
      rintro e w2 ⟨rfl, ho2, hg2⟩
      have hg2b := hg2
      rw [ownBlock_slice] at hg2b
      have HN : Hid (MR w w2 base g n c l (mTo RX.mark RX.cnt K l (k + 1))) := by
        rw [← HS.out]
        exact ho.out.round HND.out HMX.out ⟨rfl, rfl, rfl⟩ ⟨rfl, rfl, rfl⟩ HG1.out H1.out hg2b ho2
      clear ho2 hg2 hg2b
      go_wp2
      exact ⟨⟨k + 1, by omega, by go_num, by rw [HSN.out, ← Nat.add_assoc, HQ.out]; show _ = Value.int .i64 ((Q + (2 + x.rl + x.cl * 2) : Nat) : Int); go_num, HN.out⟩, by simp [intOf]; omega⟩
    · obtain rfl : k = n := by omega
      have HT : Hid (l.take k = l) := List.take_of_length_le (by rw [HLN.out]; omega)
      go_wp2
      go_ret
      exact ⟨ret_int (by rw [HT.out]), ho.out.r, ho.out.o, ho.out.f.mono fun X hX => hX.elim (fun e => .inl (by rw [e]; rfl)) .inr⟩
set_option maxHeartbeats 2000000 in
theorem law_heldRingsX (a : Option Addr) (n c base : Nat) (l : List RX) (K : Nat) (w : World) (hr : w.ownsRow base 92 4 (.slice a n c) n (rxCells (mTo RX.mark RX.cnt K l n))) (ho : ∀ (j : Nat) (x : RX), (mTo RX.mark RX.cnt K l n)[j]? = some x → x.own w base) (hK : 0 < K) (hm : K + szSum RX.cnt l ≤ 100000000) :
    Calls Tryz.prog 124 #[.slice a n c, .int .i64 K] w fun e w' => e = .returned (.int .i64 ((K + szSum RX.cnt l : Nat) : Int)) ∧ Below w.heap.size w w' := by
  have hlen : l.length = n := by have h := hr.1; rw [rxCells_length, mTo_length] at h; omega
  have HR : Hid (w.ownsRow base 92 4 (.slice a n c) n (rxCells (mTo RX.mark RX.cnt K l n))) := hr
  have HO : Hid (∀ (j : Nat) (x : RX), (mTo RX.mark RX.cnt K l n)[j]? = some x → x.own w base) := ho
  have HM : Hid (K + szSum RX.cnt l ≤ 100000000) := hm
  have HLN : Hid (l.length = n) := hlen
  have hnl : n ≤ 100000000 := by have h1 := szSum_len (c := RX.cnt) (l := l) (fun x => by unfold RX.cnt; omega); omega
  clear hr ho hm hlen
  go_enter Tryz.func124, Tryz.ntmps124
  go_wp2
  go_loopw [1, 5] (fun q i wr => ∃ k : Nat, k ≤ n ∧ i = .int .i64 k ∧ q = .int .i64 ((K + szSum RX.cnt (l.take k) : Nat) : Int) ∧ Hid (Below w.heap.size w wr)) (fun _ i _ => n - (intOf i).toNat)
  case atStart => exact ⟨0, by omega, rfl, by simp [szSum], Below.refl _ _⟩
  case round =>
    obtain ⟨k, hk, rfl, rfl, hw⟩ := hrel
    by_cases hlt : k < n
    · obtain ⟨g, rfl⟩ := own_form HR.out (by omega)
      obtain ⟨x, hx⟩ : ∃ x, l[k]? = some x := ⟨_, List.getElem?_eq_getElem (by rw [HLN.out]; exact hlt)⟩
      have hmx : (mTo RX.mark RX.cnt K l n)[k]? = some (RX.mark (K + szSum RX.cnt (l.take k)) x) := mTo_all hx hlt
      have hsl := szSum_lt (c := RX.cnt) hx
      have HSN : Hid (szSum RX.cnt (l.take (k + 1)) = szSum RX.cnt (l.take k) + RX.cnt x) := szSum_succ hx
      obtain ⟨Q, hQ⟩ : ∃ Q, K + szSum RX.cnt (l.take k) = Q := ⟨_, rfl⟩
      have hQm : Q + RX.cnt x ≤ 100000000 := by have := HM.out; omega
      have HQ : Hid (K + szSum RX.cnt (l.take k) = Q) := hQ
      rw [hQ] at hmx ⊢
      have hQ0 : 0 < Q := by omega
      have hcx : RX.cnt x = 2 + x.rl + x.cl * 2 := rfl
      rw [hcx] at hQm
      have hlt2 := HR.out.lt g rfl
      have hcell := fun o => hw.out.cell (p := ⟨g, o, none⟩) hlt2.2
      have hcl0 := (hcell _).trans ((HR.out.cellAt (k * 4) (by omega)).trans ((congrArg (fun j => (rxCells (mTo RX.mark RX.cnt K l n))[j]?) (Nat.add_zero _).symm).trans (rxCells_at hmx 0 (by omega))))
      have hcl1 := (hcell _).trans ((HR.out.cellAt (k * 4 + 1) (by omega)).trans (rxCells_at hmx 1 (by omega)))
      have hcl2 := (hcell _).trans ((HR.out.cellAt (k * 4 + 2) (by omega)).trans (rxCells_at hmx 2 (by omega)))
      have hcl3 := (hcell _).trans ((HR.out.cellAt (k * 4 + 3) (by omega)).trans (rxCells_at hmx 3 (by omega)))
      simp only [RX.cells, RX.mark, List.getElem?_cons_zero, List.getElem?_cons_succ] at hcl0 hcl1 hcl2 hcl3
      rw [show ((Q + 1 : Nat) : Int) = (Q : Int) + 1 by omega] at hcl1
      have HX : Hid ((RX.mark Q x).own w base) := HO.out k _ hmx
      have HXL : Hid (x.xs.length = x.rl ∧ x.ys.length = x.cl * 2) := by
        have h1 := HX.out.1.1
        have h2 := HX.out.2.1
        simp only [RX.mark, mStr_length, mCur_length] at h1 h2
        show _ ∧ _
        omega
      have hne0 : ((Q : Int) != (Q : Int)) = false := by simp
      have hne1 : ((Q : Int) + 1 != (Q : Int) + 1) = false := by simp
      clear hx hmx hQ hsl hcx hcell
      go_wp2_with fail
      refine (law_heldStrs x.ra x.rl x.rc base x.xs (Q + 2) _ (own_below HX.out.1 hw.out) HXL.out.1 (by omega) (by omega)).mono ?_
      rintro e w1 ⟨rfl, hb1⟩
      have hd3 := (hb1.cell (p := ⟨g, k * 4 + 3, none⟩) (Nat.lt_of_lt_of_le hlt2.2 hw.out.size)).trans hcl3
      have HW1 : Hid (Below w.heap.size w w1) := below_tr hw.out hb1
      clear hb1 hcl0 hcl1 hcl2 hcl3
      go_wp2_with fail
      refine (law_heldCurs x.ca x.cl x.cc base x.ys (Q + 2 + x.rl) _ (own_below HX.out.2 HW1.out) HXL.out.2 (by omega) (by omega)).mono ?_
      rintro e w2 ⟨rfl, hw2⟩
      rw [hw2]
      clear hw2 w2
      go_wp2
      all_goals first | exact ⟨⟨k + 1, by omega, by go_num, by rw [HSN.out, ← Nat.add_assoc, HQ.out]; show _ = Value.int .i64 ((Q + (2 + x.rl + x.cl * 2) : Nat) : Int); go_num, HW1.out⟩, by simp [intOf]; omega⟩ | (go_roundw; all_goals first | exact ⟨k + 1, by omega, by go_num, by rw [HSN.out, ← Nat.add_assoc, HQ.out]; show _ = Value.int .i64 ((Q + (2 + x.rl + x.cl * 2) : Nat) : Int); go_num, HW1.out⟩ | (simp [intOf]; omega))
    · obtain rfl : k = n := by omega
      have HT : Hid (l.take k = l) := List.take_of_length_le (by rw [HLN.out]; omega)
      go_wp2
      go_ret
      exact ⟨ret_int (by rw [HT.out]), hw.out⟩
set_option maxHeartbeats 2000000 in
theorem law_markTxnsX (a : Option Addr) (n c base : Nat) (l : List TXN) (K : Nat) (w : World) (hr : w.ownsRow base 67 6 (.slice a n c) n (txCells l)) (ho : ∀ (j : Nat) (x : TXN), l[j]? = some x → x.own w base) (nd : (l.flatMap TXN.blks).Nodup) (hK : 0 < K) (hm : K + szSum TXN.cnt l ≤ 100000000) :
    Calls Tryz.prog 60 #[.slice a n c, .int .i64 K] w fun e w' => e = .returned (.int .i64 ((K + szSum TXN.cnt l : Nat) : Int)) ∧ w'.ownsRow base 67 6 (.slice a n c) n (txCells (mTo TXN.mark TXN.cnt K l n)) ∧ (∀ (j : Nat) (x : TXN), (mTo TXN.mark TXN.cnt K l n)[j]? = some x → x.own w' base) ∧ Fr (fun X => blk? a = some X ∨ X ∈ l.flatMap TXN.blks) w w' := by
  have hlen : l.length = n := by have h := hr.1; rw [txCells_length] at h; omega
  have HR : Hid (w.ownsRow base 67 6 (.slice a n c) n (txCells l)) := hr
  have HO : Hid (∀ (j : Nat) (x : TXN), l[j]? = some x → x.own w base) := ho
  have HND : Hid ((l.flatMap TXN.blks).Nodup) := nd
  have HM : Hid (K + szSum TXN.cnt l ≤ 100000000) := hm
  have HLN : Hid (l.length = n) := hlen
  have hnl : n ≤ 100000000 := by have h1 := szSum_len (c := TXN.cnt) (l := l) (fun x => by unfold TXN.cnt; omega); omega
  clear hr ho nd hm hlen
  by_cases h0 : n = 0
  · subst h0
    have hl0 : l = [] := List.eq_nil_of_length_eq_zero HLN.out
    subst hl0
    go_enter Tryz.func60, Tryz.ntmps60
    go_wp2
    go_loopw [1, 5] (fun q i wr => i = .int .i64 0 ∧ q = .int .i64 (K : Int) ∧ wr = w) (fun _ _ _ => 0)
    case atStart => exact ⟨rfl, rfl, rfl⟩
    case round =>
      obtain ⟨rfl, rfl, rfl⟩ := hrel
      go_wp2
      go_ret
      exact ⟨ret_int (by simp [szSum]), HR.out, (fun j x h => by simp [mTo] at h), Fr.refl _ _⟩
  obtain ⟨g, rfl⟩ := own_form HR.out (by omega)
  go_enter Tryz.func60, Tryz.ntmps60
  go_wp2
  go_loopw [1, 5] (fun q i wr => ∃ k : Nat, k ≤ n ∧ i = .int .i64 k ∧ q = .int .i64 ((K + szSum TXN.cnt (l.take k) : Nat) : Int) ∧ Hid (MT w wr base g n c l (mTo TXN.mark TXN.cnt K l k))) (fun _ i _ => n - (intOf i).toNat)
  case atStart => exact ⟨0, by omega, rfl, by simp [szSum], ⟨by rw [mTo_zero]; exact HR.out, by rw [mTo_zero]; exact HO.out, by rw [mTo_zero], Fr.refl _ _⟩⟩
  case round =>
    obtain ⟨k, hk, rfl, rfl, ho⟩ := hrel
    by_cases hlt : k < n
    · obtain ⟨x, hx⟩ : ∃ x, l[k]? = some x := ⟨_, List.getElem?_eq_getElem (by rw [HLN.out]; exact hlt)⟩
      have hmx : (mTo TXN.mark TXN.cnt K l k)[k]? = some x := mTo_at hx
      have HS : Hid _ := mTo_set (f := TXN.mark) (c := TXN.cnt) (K := K) hx
      have hsl := szSum_lt (c := TXN.cnt) hx
      have HSN : Hid (szSum TXN.cnt (l.take (k + 1)) = szSum TXN.cnt (l.take k) + TXN.cnt x) := szSum_succ hx
      obtain ⟨Q, hQ⟩ : ∃ Q, K + szSum TXN.cnt (l.take k) = Q := ⟨_, rfl⟩
      have hQm : Q + TXN.cnt x ≤ 100000000 := by have := HM.out; omega
      have HQ : Hid (K + szSum TXN.cnt (l.take k) = Q) := hQ
      rw [hQ] at HS ⊢
      have hQ0 : 0 < Q := by omega
      have hcx : TXN.cnt x = 4 + x.rl + x.ll := rfl
      rw [hcx] at hQm
      have hcl0 := (ho.out.r.cellAt (k * 6) (by omega)).trans ((congrArg (fun j => (txCells (mTo TXN.mark TXN.cnt K l k))[j]?) (Nat.add_zero _).symm).trans (txCells_at hmx 0 (by omega)))
      have hcl1 := (ho.out.r.cellAt (k * 6 + 1) (by omega)).trans (txCells_at hmx 1 (by omega))
      have hcl2 := (ho.out.r.cellAt (k * 6 + 2) (by omega)).trans (txCells_at hmx 2 (by omega))
      have hcl3 := (ho.out.r.cellAt (k * 6 + 3) (by omega)).trans (txCells_at hmx 3 (by omega))
      have hcl4 := (ho.out.r.cellAt (k * 6 + 4) (by omega)).trans (txCells_at hmx 4 (by omega))
      have hcl5 := (ho.out.r.cellAt (k * 6 + 5) (by omega)).trans (txCells_at hmx 5 (by omega))
      have hfr := fun o => ho.out.r.frozenAt o
      simp only [TXN.cells, List.getElem?_cons_zero, List.getElem?_cons_succ] at hcl0 hcl1 hcl2 hcl3 hcl4 hcl5
      have HX : Hid (x.own wr base) := ho.out.o k x hmx
      have HMX : Hid ((mTo TXN.mark TXN.cnt K l k)[k]? = some x) := hmx
      have hbl := ho.out.r.lt g rfl
      have HGT : Hid (∃ C, wr.heap[g]? = some (.cells C 67 (0, 0))) := own_typed ho.out.r (X := g) rfl
      clear hx hmx hQ hsl hcx
      have HXS : Hid (∀ v0 v1 v2 v3, ((((wr.setCell ⟨g, k * 6, none⟩ v0).setCell ⟨g, k * 6 + 1, none⟩ v1).setCell ⟨g, k * 6 + 2, none⟩ v2).setCell ⟨g, k * 6 + 3, none⟩ v3).ownsRow base 2 1 (.slice x.ra x.rl x.rc) x.rl x.xs ∧ ((((wr.setCell ⟨g, k * 6, none⟩ v0).setCell ⟨g, k * 6 + 1, none⟩ v1).setCell ⟨g, k * 6 + 2, none⟩ v2).setCell ⟨g, k * 6 + 3, none⟩ v3).ownsRow base 2 1 (.slice x.la x.ll x.lc) x.ll x.ys) := fun v0 v1 v2 v3 => by
        obtain ⟨C, hC⟩ := HGT.out
        have hg := (((grown_setc wr g (k * 6) v0).trans (grown_setc _ g (k * 6 + 1) v1)).trans (grown_setc _ g (k * 6 + 2) v2)).trans (grown_setc _ g (k * 6 + 3) v3)
        exact ⟨own_keep HX.out.1 hg (.inr (own_ne HX.out.1 hC (by decide))), own_keep HX.out.2.1 hg (.inr (own_ne HX.out.2.1 hC (by decide)))⟩
      go_wp2_with fail
      refine (law_markNums x.ra x.rl x.rc base x.xs (Q + 4) _ (HXS.out _ _ _ _).1 (by omega) (by omega)).mono ?_
      rintro e w1 ⟨rfl, ho1, hg1⟩
      have H1 : Hid _ := ho1
      have hg1b := hg1
      rw [ownBlock_slice] at hg1b
      have HG1 : Hid _ := hg1b
      have hd5 : w1.cell? ⟨g, k * 6 + 5, none⟩ = some (.slice x.la x.ll x.lc) := by
        obtain ⟨C, hC⟩ := HGT.out
        refine (grown_cell hg1 (by simpa [World.setCell] using hbl.2) (fun e => ?_) _).trans ?_
        · rw [ownBlock_slice] at e
          exact own_ne HX.out.1 hC (by decide) e.symm
        · rw [World.cell?_setCell_other _ _ _ _ (by simp), World.cell?_setCell_other _ _ _ _ (by simp), World.cell?_setCell_other _ _ _ _ (by simp), World.cell?_setCell_other _ _ _ _ (by simp)]
          exact hcl5
      have HY1 : Hid (w1.ownsRow base 2 1 (.slice x.la x.ll x.lc) x.ll x.ys) := own_keep (HXS.out _ _ _ _).2 hg1b (by
        by_cases e : blk? x.ra = none
        · exact .inl e
        · obtain ⟨Z, hZ⟩ := Option.ne_none_iff_exists'.1 e
          exact .inr (by rw [hZ]; have h3 := HX.out.2.2 Z (by rw [ownBlock_slice]; exact hZ); rw [ownBlock_slice] at h3; exact h3))
      clear ho1 hg1 hg1b hcl0 hcl1 hcl2 hcl3 hcl4 hcl5 hfr
      go_wp2_with fail
      refine (law_markNums x.la x.ll x.lc base x.ys (Q + 4 + x.rl) _ HY1.out (by omega) (by omega)).mono ?_
      rintro e w2 ⟨rfl, ho2, hg2⟩
      have hg2b := hg2
      rw [ownBlock_slice] at hg2b
      have HN : Hid (MT w w2 base g n c l (mTo TXN.mark TXN.cnt K l (k + 1))) := by
        rw [← HS.out]
        exact ho.out.round HND.out HMX.out ⟨rfl, rfl, rfl⟩ ⟨rfl, rfl, rfl⟩ HG1.out H1.out hg2b ho2
      clear ho2 hg2 hg2b
      go_wp2
      exact ⟨⟨k + 1, by omega, by go_num, by rw [HSN.out, ← Nat.add_assoc, HQ.out]; show _ = Value.int .i64 ((Q + (4 + x.rl + x.ll) : Nat) : Int); go_num, HN.out⟩, by simp [intOf]; omega⟩
    · obtain rfl : k = n := by omega
      have HT : Hid (l.take k = l) := List.take_of_length_le (by rw [HLN.out]; omega)
      go_wp2
      go_ret
      exact ⟨ret_int (by rw [HT.out]), ho.out.r, ho.out.o, ho.out.f.mono fun X hX => hX.elim (fun e => .inl (by rw [e]; rfl)) .inr⟩
set_option maxHeartbeats 2000000 in
theorem law_heldTxnsX (a : Option Addr) (n c base : Nat) (l : List TXN) (K : Nat) (w : World) (hr : w.ownsRow base 67 6 (.slice a n c) n (txCells (mTo TXN.mark TXN.cnt K l n))) (ho : ∀ (j : Nat) (x : TXN), (mTo TXN.mark TXN.cnt K l n)[j]? = some x → x.own w base) (hK : 0 < K) (hm : K + szSum TXN.cnt l ≤ 100000000) :
    Calls Tryz.prog 126 #[.slice a n c, .int .i64 K] w fun e w' => e = .returned (.int .i64 ((K + szSum TXN.cnt l : Nat) : Int)) ∧ Below w.heap.size w w' := by
  have hlen : l.length = n := by have h := hr.1; rw [txCells_length, mTo_length] at h; omega
  have HR : Hid (w.ownsRow base 67 6 (.slice a n c) n (txCells (mTo TXN.mark TXN.cnt K l n))) := hr
  have HO : Hid (∀ (j : Nat) (x : TXN), (mTo TXN.mark TXN.cnt K l n)[j]? = some x → x.own w base) := ho
  have HM : Hid (K + szSum TXN.cnt l ≤ 100000000) := hm
  have HLN : Hid (l.length = n) := hlen
  have hnl : n ≤ 100000000 := by have h1 := szSum_len (c := TXN.cnt) (l := l) (fun x => by unfold TXN.cnt; omega); omega
  clear hr ho hm hlen
  go_enter Tryz.func126, Tryz.ntmps126
  go_wp2
  go_loopw [1, 5] (fun q i wr => ∃ k : Nat, k ≤ n ∧ i = .int .i64 k ∧ q = .int .i64 ((K + szSum TXN.cnt (l.take k) : Nat) : Int) ∧ Hid (Below w.heap.size w wr)) (fun _ i _ => n - (intOf i).toNat)
  case atStart => exact ⟨0, by omega, rfl, by simp [szSum], Below.refl _ _⟩
  case round =>
    obtain ⟨k, hk, rfl, rfl, hw⟩ := hrel
    by_cases hlt : k < n
    · obtain ⟨g, rfl⟩ := own_form HR.out (by omega)
      obtain ⟨x, hx⟩ : ∃ x, l[k]? = some x := ⟨_, List.getElem?_eq_getElem (by rw [HLN.out]; exact hlt)⟩
      have hmx : (mTo TXN.mark TXN.cnt K l n)[k]? = some (TXN.mark (K + szSum TXN.cnt (l.take k)) x) := mTo_all hx hlt
      have hsl := szSum_lt (c := TXN.cnt) hx
      have HSN : Hid (szSum TXN.cnt (l.take (k + 1)) = szSum TXN.cnt (l.take k) + TXN.cnt x) := szSum_succ hx
      obtain ⟨Q, hQ⟩ : ∃ Q, K + szSum TXN.cnt (l.take k) = Q := ⟨_, rfl⟩
      have hQm : Q + TXN.cnt x ≤ 100000000 := by have := HM.out; omega
      have HQ : Hid (K + szSum TXN.cnt (l.take k) = Q) := hQ
      rw [hQ] at hmx ⊢
      have hQ0 : 0 < Q := by omega
      have hcx : TXN.cnt x = 4 + x.rl + x.ll := rfl
      rw [hcx] at hQm
      have hlt2 := HR.out.lt g rfl
      have hcell := fun o => hw.out.cell (p := ⟨g, o, none⟩) hlt2.2
      have hcl0 := (hcell _).trans ((HR.out.cellAt (k * 6) (by omega)).trans ((congrArg (fun j => (txCells (mTo TXN.mark TXN.cnt K l n))[j]?) (Nat.add_zero _).symm).trans (txCells_at hmx 0 (by omega))))
      have hcl1 := (hcell _).trans ((HR.out.cellAt (k * 6 + 1) (by omega)).trans (txCells_at hmx 1 (by omega)))
      have hcl2 := (hcell _).trans ((HR.out.cellAt (k * 6 + 2) (by omega)).trans (txCells_at hmx 2 (by omega)))
      have hcl3 := (hcell _).trans ((HR.out.cellAt (k * 6 + 3) (by omega)).trans (txCells_at hmx 3 (by omega)))
      have hcl4 := (hcell _).trans ((HR.out.cellAt (k * 6 + 4) (by omega)).trans (txCells_at hmx 4 (by omega)))
      have hcl5 := (hcell _).trans ((HR.out.cellAt (k * 6 + 5) (by omega)).trans (txCells_at hmx 5 (by omega)))
      simp only [TXN.cells, TXN.mark, List.getElem?_cons_zero, List.getElem?_cons_succ] at hcl0 hcl1 hcl2 hcl3 hcl4 hcl5
      rw [show ((Q + 1 : Nat) : Int) = (Q : Int) + 1 by omega] at hcl1
      rw [show ((Q + 2 : Nat) : Int) = (Q : Int) + 2 by omega] at hcl2
      rw [show ((Q + 3 : Nat) : Int) = (Q : Int) + 3 by omega] at hcl3
      have HX : Hid ((TXN.mark Q x).own w base) := HO.out k _ hmx
      have HXL : Hid (x.xs.length = x.rl ∧ x.ys.length = x.ll) := by
        have h1 := HX.out.1.1
        have h2 := HX.out.2.1.1
        simp only [TXN.mark, mNum_length] at h1 h2
        show _ ∧ _
        omega
      have hne0 : ((Q : Int) != (Q : Int)) = false := by simp
      have hne1 : ((Q : Int) + 1 != (Q : Int) + 1) = false := by simp
      have hne2 : ((Q : Int) + 2 != (Q : Int) + 2) = false := by simp
      have hne3 : ((Q : Int) + 3 != (Q : Int) + 3) = false := by simp
      clear hx hmx hQ hsl hcx hcell
      go_wp2_with fail
      refine (law_heldNums x.ra x.rl x.rc base x.xs (Q + 4) _ (own_below HX.out.1 hw.out) HXL.out.1 (by omega) (by omega)).mono ?_
      rintro e w1 ⟨rfl, hb1⟩
      have hd5 := (hb1.cell (p := ⟨g, k * 6 + 5, none⟩) (Nat.lt_of_lt_of_le hlt2.2 hw.out.size)).trans hcl5
      have HW1 : Hid (Below w.heap.size w w1) := below_tr hw.out hb1
      clear hb1 hcl0 hcl1 hcl2 hcl3 hcl4 hcl5
      go_wp2_with fail
      refine (law_heldNums x.la x.ll x.lc base x.ys (Q + 4 + x.rl) _ (own_below HX.out.2.1 HW1.out) HXL.out.2 (by omega) (by omega)).mono ?_
      rintro e w2 ⟨rfl, hb2⟩
      have HW2 : Hid (Below w.heap.size w w2) := below_tr HW1.out hb2
      clear hb2
      go_wp2
      all_goals first | exact ⟨⟨k + 1, by omega, by go_num, by rw [HSN.out, ← Nat.add_assoc, HQ.out]; show _ = Value.int .i64 ((Q + (4 + x.rl + x.ll) : Nat) : Int); go_num, HW2.out⟩, by simp [intOf]; omega⟩ | (go_roundw; all_goals first | exact ⟨k + 1, by omega, by go_num, by rw [HSN.out, ← Nat.add_assoc, HQ.out]; show _ = Value.int .i64 ((Q + (4 + x.rl + x.ll) : Nat) : Int); go_num, HW2.out⟩ | (simp [intOf]; omega))
    · obtain rfl : k = n := by omega
      have HT : Hid (l.take k = l) := List.take_of_length_le (by rw [HLN.out]; omega)
      go_wp2
      go_ret
      exact ⟨ret_int (by rw [HT.out]), hw.out⟩
end Go.Proofs.YtneiihikcnjglaaGreatDoor
/- The program's answer: a fabric at work laid out anew. -/
namespace Go.Proofs.YtneiihikcnjglaaGreatDoor
open Go.RowKit Go.Maps
attribute [local go_sem ↓] Go.wp_at_zero Go.wp_at_succ
set_option linter.unusedSimpArgs false
set_option linter.unusedVariables false

/-- What stands while the answer is laid out: its two boxes, its lists. -/
structure FO (w v : World) (X : Nat) (ra : Option Addr) (rl rc : Nat) (ea : Option Addr) (el ec : Nat) (ta : Option Addr) (tl tc : Nat) (now : Int) (rs : List RD) (es : List Int) (ts : List TD) : Prop where
  y : v.heap[w.heap.size]? = some (fabO none 0 0 none 0 0 none 0 0 0)
  x : v.heap[X]? = some (fabO ra rl rc ea el ec ta tl tc now)
  own : OwnFab v w.heap.size ra rl rc ea el ec ta tl tc rs es ts
  lx : w.heap.size < X
  bel : Below w.heap.size w v
section
variable {w u v : World} {X : Nat} {ra : Option Addr} {rl rc : Nat} {ea : Option Addr} {el ec : Nat} {ta : Option Addr} {tl tc : Nat} {now : Int} {rs : List RD} {es : List Int} {ts : List TD}
theorem FO.under (h : FO w u X ra rl rc ea el ec ta tl tc now rs es ts) (hb : Below u.heap.size u v) : FO w v X ra rl rc ea el ec ta tl tc now rs es ts :=
  ⟨(hb.block _ (fb_lt h.y)).trans h.y, (hb.block _ (fb_lt h.x)).trans h.x, h.own.below hb, h.lx, below_tr h.bel hb⟩
theorem fab_ne : 31 ≠ 92 ∧ 31 ≠ 67 ∧ 31 ≠ 2 ∧ 31 ≠ 9 ∧ 31 ≠ 109 := by decide
/-- A ring more: copied, and appended. -/
theorem FO.ring {a1 : Option Addr} {c1 b1 : Nat} {r : RD} (h : FO w u X ra rl rc none 0 0 none 0 0 now rs [] []) (hr : r.own u b1) (hb1 : ∀ Z ∈ rs.flatMap RD.blks, Z < b1) (hwb : w.heap.size ≤ b1)
    (ho : v.ownsRow w.heap.size 92 4 (.slice a1 (rl + 1) c1) (rl + 1) (rdCells rs ++ r.cells)) (hg : u.grownBy v (Value.slice ra rl rc).ownBlock) :
    v.heap[X]? = some (fabO ra rl rc none 0 0 none 0 0 now) ∧ FO w (v.setCell ⟨X, 0, none⟩ (.slice a1 (rl + 1) c1)) X a1 (rl + 1) c1 none 0 0 none 0 0 now (rs ++ [r]) [] [] := by
  rw [ownBlock_slice] at hg
  have hx : v.heap[X]? = some (fabO ra rl rc none 0 0 none 0 0 now) := (hg.block _ (fb_lt h.x) (fun e => own_ne h.own.r h.x (by decide) e.symm)).trans h.x
  have hy : v.heap[w.heap.size]? = some (fabO none 0 0 none 0 0 none 0 0 0) := (hg.block _ (fb_lt h.y) (fun e => own_ne h.own.r h.y (by decide) e.symm)).trans h.y
  have hrow : ∀ (Z : Nat), blk? ra = some Z → ∃ C, u.heap[Z]? = some (.cells C 92 (0, 0)) := fun Z hZ => own_typed h.own.r hZ
  have hri : ∀ q ∈ rs ++ [r], q.own v w.heap.size := fun q hq => by
    rcases List.mem_append.1 hq with hq | hq
    · exact (h.own.ri q hq).keep hg fun Z hZ e => by obtain ⟨C, hC⟩ := hrow Z e; exact (h.own.ri q hq).not hC (by decide) (by decide) hZ
    · rw [List.mem_singleton.1 hq]
      exact (hr.keep hg fun Z hZ e => by obtain ⟨C, hC⟩ := hrow Z e; exact hr.not hC (by decide) (by decide) hZ).mono hwb
  have hbel : Below w.heap.size w v := h.bel.grown hg h.bel.size (fun k e => by
    have := own_blk_lt h.own.r e
    exact this.1)
  have hnd : (fabBlks (rs ++ [r]) [] none).Nodup := by
    have h0 := h.own.nd
    simp only [fabBlks, List.flatMap_nil, List.nil_append, List.append_nil, blk?, Option.map_none, Option.toList_none] at h0 ⊢
    rw [List.flatMap_append]
    refine nodup_two h0 (by simpa using hr.nd) fun x hx y hy e => ?_
    have h1 := hb1 x hx
    have h2 := (hr.lt (by simpa using hy)).1
    omega
  have hF : OwnFab v w.heap.size a1 (rl + 1) c1 none 0 0 none 0 0 (rs ++ [r]) [] [] :=
    ⟨by rw [show rdCells (rs ++ [r]) = rdCells rs ++ r.cells by simp [rdCells]]; exact ho, World.ownsRow_nil _ _ _ _, World.ownsRow_nil _ _ _ _, hri, (fun _ h => by cases h), hnd⟩
  have hgX := grown_setc v X 0 (.slice a1 (rl + 1) c1)
  exact ⟨hx, (hgX.block _ (fb_lt hy) (by have := h.lx; simp; omega)).trans hy, heap_setCell_same v X 0 _ _ _ hx, hF.box hx fab_ne hgX, h.lx, hbel.setCell (p := ⟨X, 0, none⟩) (Nat.le_of_lt h.lx) _⟩
/-- A transaction more. -/
theorem FO.txn {a1 : Option Addr} {c1 b1 : Nat} {t : TD} (h : FO w u X ra rl rc none 0 0 ta tl tc now rs [] ts) (hr : t.own u b1) (hb1 : ∀ Z ∈ fabBlks rs ts none, Z < b1) (hwb : w.heap.size ≤ b1)
    (ho : v.ownsRow w.heap.size 67 6 (.slice a1 (tl + 1) c1) (tl + 1) (tdCells ts ++ t.cells)) (hg : u.grownBy v (Value.slice ta tl tc).ownBlock) :
    v.heap[X]? = some (fabO ra rl rc none 0 0 ta tl tc now) ∧ FO w (v.setCell ⟨X, 2, none⟩ (.slice a1 (tl + 1) c1)) X ra rl rc none 0 0 a1 (tl + 1) c1 now rs [] (ts ++ [t]) := by
  rw [ownBlock_slice] at hg
  have hx : v.heap[X]? = some (fabO ra rl rc none 0 0 ta tl tc now) := (hg.block _ (fb_lt h.x) (fun e => own_ne h.own.t h.x (by decide) e.symm)).trans h.x
  have hy : v.heap[w.heap.size]? = some (fabO none 0 0 none 0 0 none 0 0 0) := (hg.block _ (fb_lt h.y) (fun e => own_ne h.own.t h.y (by decide) e.symm)).trans h.y
  have hrow : ∀ (Z : Nat), blk? ta = some Z → ∃ C, u.heap[Z]? = some (.cells C 67 (0, 0)) := fun Z hZ => own_typed h.own.t hZ
  have hti : ∀ q ∈ ts ++ [t], q.own v w.heap.size := fun q hq => by
    rcases List.mem_append.1 hq with hq | hq
    · exact (h.own.ti q hq).keep hg fun Z hZ e => by obtain ⟨C, hC⟩ := hrow Z e; exact (h.own.ti q hq).not hC (by decide) hZ
    · rw [List.mem_singleton.1 hq]
      exact (hr.keep hg fun Z hZ e => by obtain ⟨C, hC⟩ := hrow Z e; exact hr.not hC (by decide) hZ).mono hwb
  have hri : ∀ q ∈ rs, q.own v w.heap.size := fun q hq => (h.own.ri q hq).keep hg fun Z hZ e => by obtain ⟨C, hC⟩ := hrow Z e; exact (h.own.ri q hq).not hC (by decide) (by decide) hZ
  have hrr : v.ownsRow w.heap.size 92 4 (.slice ra rl rc) rl (rdCells rs) := own_keep h.own.r hg (by
    by_cases e : blk? ta = none
    · exact .inl e
    · obtain ⟨Z, hZ⟩ := Option.ne_none_iff_exists'.1 e
      exact .inr (by rw [hZ]; exact own_ne_own h.own.t h.own.r (by decide) hZ))
  have hbel : Below w.heap.size w v := h.bel.grown hg h.bel.size (fun k e => (own_blk_lt h.own.t e).1)
  have hnd : (fabBlks rs (ts ++ [t]) none).Nodup := by
    have h0 := h.own.nd
    simp only [fabBlks, blk?, Option.map_none, Option.toList_none, List.append_nil] at h0 hb1 ⊢
    rw [List.flatMap_append, ← List.append_assoc]
    refine nodup_two h0 (by simpa using hr.nd) fun x hx y hy e => ?_
    have h1 := hb1 x hx
    have h2 := (hr.lt (by simpa using hy)).1
    omega
  have hF : OwnFab v w.heap.size ra rl rc none 0 0 a1 (tl + 1) c1 rs [] (ts ++ [t]) :=
    ⟨hrr, World.ownsRow_nil _ _ _ _, by rw [show tdCells (ts ++ [t]) = tdCells ts ++ t.cells by simp [tdCells]]; exact ho, hri, hti, hnd⟩
  have hgX := grown_setc v X 2 (.slice a1 (tl + 1) c1)
  exact ⟨hx, (hgX.block _ (fb_lt hy) (by have := h.lx; simp; omega)).trans hy, heap_setCell_same v X 2 _ _ _ hx, hF.box hx fab_ne hgX, h.lx, hbel.setCell (p := ⟨X, 2, none⟩) (Nat.le_of_lt h.lx) _⟩
/-- The epochs, at the end. -/
theorem FO.eps {a1 : Option Addr} {c1 n base : Nat} (h : FO w u X ra rl rc none 0 0 ta tl tc now rs [] ts) (hb1 : ∀ Z ∈ fabBlks rs ts none, Z < base) (hwb : w.heap.size ≤ base)
    (ho : v.ownsRow base 2 1 (.slice a1 n c1) n (numCells es)) (hg : u.grownBy v none) (hXb : X < base) :
    v.heap[X]? = some (fabO ra rl rc none 0 0 ta tl tc now) ∧ FO w (v.setCell ⟨X, 1, none⟩ (.slice a1 n c1)) X ra rl rc a1 n c1 ta tl tc now rs es ts := by
  have h1 := h.under (below_of_grown hg)
  have hnd : (fabBlks rs ts a1).Nodup := by
    have h0 := h.own.nd
    simp only [fabBlks, blk?, Option.map_none, Option.toList_none, List.append_nil] at h0 hb1 ⊢
    rw [← List.append_assoc]
    refine nodup_two h0 (nodup_opt _) fun x hx y hy e => ?_
    have h2 := hb1 x hx
    have h3 := (own_blk_lt ho (Option.mem_toList.1 hy)).1
    omega
  have hgX := grown_setc v X 1 (.slice a1 n c1)
  have hF : OwnFab v w.heap.size ra rl rc a1 n c1 ta tl tc rs es ts := ⟨h1.own.r, own_base ho hwb, h1.own.t, h1.own.ri, h1.own.ti, hnd⟩
  exact ⟨h1.x, (hgX.block _ (fb_lt h1.y) (by have := h.lx; simp; omega)).trans h1.y, heap_setCell_same v X 1 _ _ _ h1.x, hF.box h1.x fab_ne hgX, h.lx, h1.bel.setCell (p := ⟨X, 1, none⟩) (Nat.le_of_lt h.lx) _⟩
end
end Go.Proofs.YtneiihikcnjglaaGreatDoor
/- The program's answer: a fabric at work laid out anew, walked. -/
namespace Go.Proofs.YtneiihikcnjglaaGreatDoor
open Go.RowKit Go.Maps
attribute [local go_sem ↓] Go.wp_at_zero Go.wp_at_succ
set_option linter.unusedSimpArgs false
set_option linter.unusedVariables false

theorem impl_loadPuts (p : Addr) (x : Int) (w : World) (hp : p = ⟨p.block, p.off, none⟩) (hc : w.cell? p = some (.int .i64 x)) :
    Calls Tryz.prog 171 #[.pointer (some p)] w fun e w' => e = .returned (.int .i64 x) ∧ w' = w := by
  obtain ⟨b, o, s⟩ := p
  simp only [Addr.mk.injEq, true_and] at hp
  subst hp
  have hl := run_call_load (P := Tryz.prog) Tryz.func230 (by kernel_rfl) (by kernel_rfl) (by kernel_rfl) .i64 (by kernel_rfl) hc
  go_enter Tryz.func171, Tryz.ntmps171
  go_wp2
  go_ret
  exact ⟨rfl, rfl⟩
/-- The fabric's lists without where they lie. -/
def FabSame (rs rs' : List RD) (ts ts' : List TD) : Prop := rs'.map RD.strip = rs.map RD.strip ∧ ts'.map TD.strip = ts.map TD.strip
set_option maxRecDepth 100000 in
set_option maxHeartbeats 4000000 in
theorem impl_fabric {lo B M : Nat} {ta : Option Addr} {tl tc : Nat} {ra : Option Addr} {rl rc : Nat} {ea : Option Addr} {el ec : Nat} {now began puts : Int} {ts : List TD} {rs : List RD} {es : List Int} {m : Nat} {D : DataW Unit} (w : World)
    (hk : WK lo w B M ta tl tc ra rl rc ea el ec now began puts ts rs es m D) (hsum : endSum rs = began + puts) (hb64 : -9000000000 ≤ began ∧ began ≤ 9000000000) (hp64 : -9000000000 ≤ puts ∧ puts ≤ 9000000000) (hrl : rl ≤ 4) (htl : tl ≤ 12) (hel : el ≤ 4) (hF : ∀ r ∈ rs, 0 ≤ r.first ∧ r.first ≤ 1000000) :
    Calls Tryz.prog 116 #[.pointer (some ⟨B, 0, none⟩)] w fun x w' => ∃ ra' rc' ea' ec' ta' tc' rs' ts', x = .returned (fabVal ra' rl rc' ea' el ec' ta' tl tc' now) ∧ OwnFab w' w.heap.size ra' rl rc' ea' el ec' ta' tl tc' rs' es ts' ∧ FabSame rs rs' ts ts' ∧ Below w.heap.size w w' := by
  obtain ⟨i0, hi0, hz0, hz1, hz2⟩ := info_parts info_ringF
  obtain ⟨t0, ht0, hu0, hu1, hu2⟩ := info_parts info_txnF
  obtain ⟨j0, hj0, hy0, hy1, hy2⟩ := info_parts info_i64
  have HK : Hid (WK lo w B M ta tl tc ra rl rc ea el ec now began puts ts rs es m D) := hk
  have HLR : Hid (rs.length = rl) := hk.rngs.1
  have HLT : Hid (ts.length = tl) := hk.txs.1
  have HLE : Hid (es.length = el) := hk.nums.1
  have HENIL : Hid (ea = none → el = 0 ∧ ec = 0) := fun e => by
    rcases hk.e.2 with ⟨e1, e2⟩ | ⟨g, cap, cur, e1, _⟩
    · simp only [Value.slice.injEq] at e1; exact ⟨e2, e1.2.2⟩
    · simp only [Value.slice.injEq] at e1; rw [e] at e1; cases e1.1
  have HSUM : Hid (endSum rs = began + puts) := hsum
  have HSE : Hid _ := fun u (h : WK lo u B M ta tl tc ra rl rc ea el ec now began puts ts rs es m D) => impl_sumOfEnds rs u h.b h.rngs hrl hF
  have HBY : Hid (FB w (w.alloc (fabO none 0 0 none 0 0 none 0 0 0)) (fabO none 0 0 none 0 0 none 0 0 0)) := fb_new _ _ _
  have hws : IntKind.i64.wrap (began + puts) = began + puts := twrap_in _ (by omega) (by omega)
  have hnq : (began + puts != began + puts) = false := by simp
  clear hk hsum hF
  go_enter Tryz.func116, Tryz.ntmps116
  go_upto_region 1 with fail
  have H1 : Hid (FB w (w.alloc (fabO none 0 0 none 0 0 none 0 0 0)).drew (fabO none 0 0 none 0 0 none 0 0 0)) := HBY.out.under ((Below.refl _ _).drew)
  clear HBY
  rw [HSUM.out] at HSE
  refine wp_region_held_drew (S := (fun x => ∀ o, x.cell? ⟨B, o, none⟩ = (#[.slice ta tl tc, .map (some M), .slice ra rl rc, .slice ea el ec, .int .i64 now, .int .i64 began, .int .i64 puts] : Array Value)[o]?)) (by kernel_rfl) (fun o => fb_cell (HK.out.under H1.out.bel).b o) (fun hHeld => ?_)
  refine wpAnyH_take (i := 0) (v := ?_) rfl (by kernel_rfl) (by kernel_rfl) (by kernel_rfl) (fun _ _ _ h => h) (Or.inl ⟨by rfl, ?_⟩) hHeld ?_
  rotate_left
  · intro wy hSw; (try dsimp only at hSw); go_simp; (try with_reducible rfl)
  try simp only [Act.put, List.getElem_toArray, List.getElem_cons_zero, List.getElem_cons_succ, List.setIfInBounds_toArray, List.set_cons_zero, List.set_cons_succ]
  refine wpAnyH_take (i := 2) (v := ?_) rfl (by kernel_rfl) (by kernel_rfl) (by kernel_rfl) (fun _ _ _ h => h) (Or.inl ⟨by rfl, ?_⟩) hHeld ?_
  rotate_left
  · intro wy hSw; (try dsimp only at hSw); go_simp; (try with_reducible rfl)
  try simp only [Act.put, List.getElem_toArray, List.getElem_cons_zero, List.getElem_cons_succ, List.setIfInBounds_toArray, List.set_cons_zero, List.set_cons_succ]
  refine wpAnyH_take (i := 3) (v := ?_) rfl (by kernel_rfl) (by kernel_rfl) (by kernel_rfl) (fun _ _ _ h => h) (Or.inl ⟨by rfl, ?_⟩) hHeld ?_
  rotate_left
  · intro wy hSw; (try dsimp only at hSw); go_simp; (try with_reducible rfl)
  try simp only [Act.put, List.getElem_toArray, List.getElem_cons_zero, List.getElem_cons_succ, List.setIfInBounds_toArray, List.set_cons_zero, List.set_cons_succ]
  refine wpAnyH_take (i := 4) (v := ?_) rfl (by kernel_rfl) (by kernel_rfl) (by kernel_rfl) (fun _ _ _ h => h) (Or.inl ⟨by rfl, ?_⟩) hHeld ?_
  rotate_left
  · intro wy hSw; (try dsimp only at hSw); go_simp; (try with_reducible rfl)
  try simp only [Act.put, List.getElem_toArray, List.getElem_cons_zero, List.getElem_cons_succ, List.setIfInBounds_toArray, List.set_cons_zero, List.set_cons_succ]
  refine wpAnyH_take (i := 5) (v := ?_) rfl (by kernel_rfl) (by kernel_rfl) (by kernel_rfl) (fun _ _ _ h => h) (Or.inl ⟨by rfl, ?_⟩) hHeld ?_
  rotate_left
  · intro wy hSw; (try dsimp only at hSw); go_simp; (try with_reducible rfl)
  try simp only [Act.put, List.getElem_toArray, List.getElem_cons_zero, List.getElem_cons_succ, List.setIfInBounds_toArray, List.set_cons_zero, List.set_cons_succ]
  refine wpAnyH_take (i := 6) (v := ?_) rfl (by kernel_rfl) (by kernel_rfl) (by kernel_rfl) (fun _ _ _ h => h) (Or.inl ⟨by rfl, ?_⟩) hHeld ?_
  rotate_left
  · intro wy hSw; (try dsimp only at hSw); go_simp; (try with_reducible rfl)
  try simp only [Act.put, List.getElem_toArray, List.getElem_cons_zero, List.getElem_cons_succ, List.setIfInBounds_toArray, List.set_cons_zero, List.set_cons_succ]
  refine wpAnyH_take (i := 7) (v := ?_) rfl (by kernel_rfl) (by kernel_rfl) (by kernel_rfl) (fun _ _ _ h => h) (Or.inl ⟨by rfl, ?_⟩) hHeld ?_
  rotate_left
  · intro wy hSw; (try dsimp only at hSw); go_simp; (try with_reducible rfl)
  try simp only [Act.put, List.getElem_toArray, List.getElem_cons_zero, List.getElem_cons_succ, List.setIfInBounds_toArray, List.set_cons_zero, List.set_cons_succ]
  refine wpAnyH_take (i := 8) (v := ?_) rfl (by kernel_rfl) (by kernel_rfl) (by kernel_rfl) (fun _ _ _ h => h) (Or.inl ⟨by rfl, ?_⟩) hHeld ?_
  rotate_left
  · intro wy hSw; (try dsimp only at hSw); go_simp; (try with_reducible rfl)
  try simp only [Act.put, List.getElem_toArray, List.getElem_cons_zero, List.getElem_cons_succ, List.setIfInBounds_toArray, List.set_cons_zero, List.set_cons_succ]
  refine wpAnyH_ready (rs := [1]) (by kernel_rfl) (by simp) ?_
  refine AllReadyH.cons rfl (fun K hK => ?_) AllReadyH.nil
  go_simp
  refine (HSE.out _ (HK.out.under H1.out.bel)).mono ?_; rintro x v1 ⟨rfl, hb1⟩; have H1 : Hid (FB w v1 (fabO none 0 0 none 0 0 none 0 0 0)) := H1.out.under hb1; clear hb1
  go_wp2_with fail
  refine hK.out _ _ ?_ (fun hHeld => ?_)
  · exact fun o => fb_cell (HK.out.under H1.out.bel).b o
  clear hK K
  try simp only [Act.put, List.getElem_toArray, List.getElem_cons_zero, List.getElem_cons_succ, List.setIfInBounds_toArray, List.set_cons_zero, List.set_cons_succ]
  refine wpAnyH_ready (rs := [9]) (by kernel_rfl) (by simp) ?_
  refine AllReadyH.cons rfl (fun K hK => ?_) AllReadyH.nil
  go_simp
  refine (impl_loadPuts ⟨B, 6, none⟩ puts _ rfl (fb_cell (HK.out.under H1.out.bel).b 6)).mono ?_; rintro x v2 ⟨rfl, hb2⟩; rw [hb2]; clear hb2 v2
  go_wp2_with fail
  refine hK.out _ _ ?_ (fun hHeld => ?_)
  · exact fun o => fb_cell (HK.out.under H1.out.bel).b o
  clear hK K
  try simp only [Act.put, List.getElem_toArray, List.getElem_cons_zero, List.getElem_cons_succ, List.setIfInBounds_toArray, List.set_cons_zero, List.set_cons_succ]
  refine wpAnyH_take (i := 10) (v := ?_) rfl (by kernel_rfl) (by kernel_rfl) (by kernel_rfl) (fun _ _ _ h => h) (Or.inl ⟨by rfl, ?_⟩) hHeld ?_
  rotate_left
  · intro wy hSw; (try dsimp only at hSw); go_simp; (try with_reducible rfl)
  try simp only [Act.put, List.getElem_toArray, List.getElem_cons_zero, List.getElem_cons_succ, List.setIfInBounds_toArray, List.set_cons_zero, List.set_cons_succ]
  refine wpAnyH_take (i := 11) (v := ?_) rfl (by kernel_rfl) (by kernel_rfl) (by kernel_rfl) (fun _ _ _ h => h) (Or.inl ⟨by rfl, ?_⟩) hHeld ?_
  rotate_left
  · intro wy hSw; (try dsimp only at hSw); go_simp; (try with_reducible rfl)
  try simp only [Act.put, List.getElem_toArray, List.getElem_cons_zero, List.getElem_cons_succ, List.setIfInBounds_toArray, List.set_cons_zero, List.set_cons_succ]
  refine wpAnyH_done (by kernel_rfl) ?_ _
  have cb := fun o => fb_cell (HK.out.under H1.out.bel).b o
  clear HSE hnq
  obtain ⟨V, hV⟩ : ∃ V, v1 = V := ⟨_, rfl⟩
  rw [hV] at H1 cb ⊢
  clear hV
  have HS : Hid (FO w (V.alloc (fabO none 0 0 none 0 0 none 0 0 now)) V.heap.size none 0 0 none 0 0 none 0 0 now [] [] []) := ⟨((fbelow_new _ _).block _ (fb_lt H1.out.box)).trans H1.out.box, heap_alloc_new _ _, ownFab_nil _ _, fb_lt H1.out.box, below_tr H1.out.bel (fbelow_new _ _)⟩
  obtain ⟨X, hX⟩ : ∃ X, V.heap.size = X := ⟨_, rfl⟩
  rw [hX] at HS
  have cb2 := fun o => fb_cell (HK.out.under HS.out.bel).b o
  go_wp2_with fail
  clear cb cb2 H1
  go_loopw [31] (fun i wr => ∃ (k : Nat) (a : Option Addr) (c : Nat) (rs' : List RD), k ≤ rl ∧ i = .int .i64 k ∧ Hid (rs'.map RD.strip = (rs.take k).map RD.strip) ∧ Hid (FO w wr X a k c none 0 0 none 0 0 now rs' [] [])) (fun i _ => rl - (intOf i).toNat)
  case atStart => exact ⟨0, none, 0, [], by omega, rfl, show _ = _ by simp, HS.out⟩
  case round =>
    obtain ⟨k, a, c, rs', hk, rfl, hsm, hf⟩ := hrel
    clear HS
    by_cases hlt : k < rl
    · obtain ⟨b, off, r, rfl, e1, g0, g1, g2, g3, hfit⟩ := rngsG_at keeps_fit (HK.out.under hf.out.bel).rngs (Below.refl _ _) hlt
      have HZ : Hid (∀ Z ∈ rs'.flatMap RD.blks, Z < wr.heap.size) := fun Z hZ => (hf.out.own.lt (by simp only [fabBlks, List.mem_append]; exact .inl hZ)).2
      have HSM : Hid (∀ q : RD, q.strip = r.strip → (rs' ++ [q]).map RD.strip = (rs.take (k + 1)).map RD.strip) := fun q hq => by
        obtain ⟨hj, e2⟩ := List.getElem?_eq_some_iff.1 e1
        rw [List.take_succ_eq_append_getElem hj, e2, List.map_append, List.map_append, hsm.out]
        simp [hq]
      have hf2 : Hid (FO w (wr.alloc r.obj) X a k c none 0 0 none 0 0 now rs' [] []) := hf.out.under (fbelow_new _ _)
      have HFT : Hid (r.fit (wr.alloc r.obj)) := hfit.out.below (fbelow_new _ _)
      have hwz := hf.out.bel.size
      clear hf hfit e1 hsm
      obtain ⟨cap, first, ra2, rl2, rc2, ca2, cl2, cc2, recs, curs⟩ := r
      have hrl2 : rl2 ≤ 1048577 := Nat.le_succ_of_le HFT.out.rle
      have hcl2 : cl2 ≤ 1048577 := Nat.le_succ_of_le HFT.out.cle
      have c3 := fun o => fb_cell hf2.out.x o
      go_wp2
      go_region_law (first
        | (go_simp; go_at_call 149; refine (impl_copyRing cap first ra2 rl2 rc2 ca2 cl2 cc2 recs curs _ (HFT.out.str.below ((Below.refl _ _).drew)) (HFT.out.cur.below ((Below.refl _ _).drew)) HFT.out.sz hrl2 hcl2).mono ?_; rintro x w2 ⟨a2, q2, c2, p2, rfl, ho2, hb2⟩; have hf3 : Hid (FO w w2 X a k c none 0 0 none 0 0 now rs' [] []) := hf2.out.under (below_tr ((Below.refl _ _).drew) hb2); have HOR : Hid (RD.own ⟨cap, first, a2, rl2, q2, c2, cl2, p2, recs, curs⟩ w2 wr.heap.size) := RD.own.mono (r := ⟨cap, first, a2, rl2, q2, c2, cl2, p2, recs, curs⟩) ho2 (by simp); have c3 := fun o => fb_cell hf3.out.x o; have hlb := fb_lt hf3.out.x; clear hb2 ho2)
        | (refine step_append_own_any (by rfl) _ _ _ (by rfl) w.heap.size 92 i0 _ 4 64 Tryz.underlying28 hi0 hz0 hz1 hz2 (by rfl) (by omega) (.slice a k c) k _ (by rfl) (hf3.out.own.r.alloc _) (some ⟨w2.heap.size, 0, none⟩) 1 1 (RD.cells ⟨cap, first, a2, rl2, q2, c2, cl2, p2, recs, curs⟩) (by rfl) (by rfl) (fun e => by cases e) (fun ad e => by cases e; exact World.news_of_block (cs := #[.int .i64 cap, .int .i64 first, .slice a2 rl2 q2, .slice c2 cl2 p2]) (t := 92) (fr := (0, 0)) (heap_alloc_new _ _)) (by simp [RD.cells, Value.oneCell']) (by unfold maxLen; omega) (by omega) (by have := hf3.out.bel.size; simp; omega) ?_; intro v2 w3 ho3 hg3; obtain ⟨a3, c3', rfl⟩ := own_rgV ho3; have hst := FO.ring (hf3.out.under (fbelow_new _ _)) (HOR.out.keep (tbelow_grown (fbelow_new _ _)) (fun _ _ e => by cases e)) HZ.out hwz ho3 hg3; have hc3 := fun o => fb_cell hst.1 o; have hf4 := fun o => unfrozen_of_block0 hst.1 o; have HST : Hid _ := hst.2; clear ho3 hg3 hst))
      all_goals
        go_wp2
        exact ⟨⟨k + 1, a3, c3', rs' ++ [RD.mk cap first a2 rl2 q2 c2 cl2 p2 recs curs], by omega, by go_num, HSM.out ⟨cap, first, a2, rl2, q2, c2, cl2, p2, recs, curs⟩ rfl, HST.out⟩, by simp [intOf]; omega⟩
    · obtain rfl : k = rl := by omega
      have cb := fun o => fb_cell (HK.out.under hf.out.bel).b o
      have HR1 : Hid (rs'.map RD.strip = rs.map RD.strip) := show _ = _ by have h := hsm.out; rwa [List.take_of_length_le (by rw [HLR.out]; exact Nat.le_refl _)] at h
      clear hsm
      go_wp2_with fail
      clear cb
      go_loopw [49] (fun i wr => ∃ (j : Nat) (d : Option Addr) (e : Nat) (ts' : List TD), j ≤ tl ∧ i = .int .i64 j ∧ Hid (ts'.map TD.strip = (ts.take j).map TD.strip) ∧ Hid (FO w wr X a k c none 0 0 d j e now rs' [] ts')) (fun i _ => tl - (intOf i).toNat)
      case atStart => exact ⟨0, none, 0, [], by omega, rfl, show _ = _ by simp, hf.out⟩
      case round =>
        obtain ⟨j, d, e, ts', hj, rfl, htm, hg⟩ := hrel
        clear hf
        by_cases hlt2 : j < tl
        · obtain ⟨b, off, t, rfl, e1, g0, g1, g2, g3, g4, g5, hfit⟩ := txsG_at keeps_tfit (HK.out.under hg.out.bel).txs (Below.refl _ _) hlt2
          have HZ : Hid (∀ Z ∈ fabBlks rs' ts' none, Z < wr.heap.size) := fun Z hZ => (hg.out.own.lt hZ).2
          have HSM : Hid (∀ q : TD, q.strip = t.strip → (ts' ++ [q]).map TD.strip = (ts.take (j + 1)).map TD.strip) := fun q hq => by
            obtain ⟨hjl, e2⟩ := List.getElem?_eq_some_iff.1 e1
            rw [List.take_succ_eq_append_getElem hjl, e2, List.map_append, List.map_append, htm.out]
            simp [hq]
          have hg2 : Hid (FO w (wr.alloc t.obj) X a k c none 0 0 d j e now rs' [] ts') := hg.out.under (fbelow_new _ _)
          have HFT : Hid (TFit (wr.alloc t.obj) t) := hfit.out.below (fbelow_new _ _)
          have hwz := hg.out.bel.size
          clear hg hfit e1 htm
          obtain ⟨p1, e1, s1, u1, ra2, rl2, rc2, la2, ll2, lc2, rs2, ls2⟩ := t
          have hrl2 : rl2 ≤ 1048577 := Nat.le_succ_of_le HFT.out.rle
          have hll2 : ll2 ≤ 1048577 := Nat.le_succ_of_le HFT.out.lle
          have c3 := fun o => fb_cell hg2.out.x o
          go_wp2
          go_region_law (first
            | (go_simp; go_at_call 172; refine (impl_copyTxn (p := p1) (e := e1) (s := s1) (u := u1) (ra := ra2) (rl := rl2) (rc := rc2) (la := la2) (ll := ll2) (lc := lc2) rs2 ls2 _ (HFT.out.r.below ((Below.refl _ _).drew)) (HFT.out.l.below ((Below.refl _ _).drew)) hrl2 hll2).mono ?_; rintro x w2 ⟨a2, q2, b2, m2, rfl, ho2, hb2⟩; have hg3 : Hid (FO w w2 X a k c none 0 0 d j e now rs' [] ts') := hg2.out.under (below_tr ((Below.refl _ _).drew) hb2); have HOR : Hid (TD.own ⟨p1, e1, s1, u1, a2, rl2, q2, b2, ll2, m2, rs2, ls2⟩ w2 wr.heap.size) := TD.own.mono (t := ⟨p1, e1, s1, u1, a2, rl2, q2, b2, ll2, m2, rs2, ls2⟩) ho2 (by simp); have c3 := fun o => fb_cell hg3.out.x o; have hlb := fb_lt hg3.out.x; clear hb2 ho2)
            | (refine step_append_own_any (by rfl) _ _ _ (by rfl) w.heap.size 67 t0 _ 6 80 Tryz.underlying29 ht0 hu0 hu1 hu2 (by rfl) (by omega) (.slice d j e) j _ (by rfl) (hg3.out.own.t.alloc _) (some ⟨w2.heap.size, 0, none⟩) 1 1 (TD.cells ⟨p1, e1, s1, u1, a2, rl2, q2, b2, ll2, m2, rs2, ls2⟩) (by rfl) (by rfl) (fun e => by cases e) (fun ad e => by cases e; exact World.news_of_block (cs := #[.int .i64 p1, .int .i64 e1, .int .i64 s1, .int .i64 u1, .slice a2 rl2 q2, .slice b2 ll2 m2]) (t := 67) (fr := (0, 0)) (heap_alloc_new _ _)) (by simp [TD.cells, Value.oneCell']) (by unfold maxLen; omega) (by omega) (by have := hg3.out.bel.size; simp; omega) ?_; intro v2 w3 ho3 hgr3; obtain ⟨a3, c3', rfl⟩ := own_txV ho3; have hst := FO.txn (hg3.out.under (fbelow_new _ _)) (HOR.out.keep (tbelow_grown (fbelow_new _ _)) (fun _ _ e => by cases e)) HZ.out hwz ho3 hgr3; have hc3 := fun o => fb_cell hst.1 o; have hf4 := fun o => unfrozen_of_block0 hst.1 o; have HST : Hid _ := hst.2; clear ho3 hgr3 hst))
          all_goals
            go_wp2
            exact ⟨⟨j + 1, a3, c3', ts' ++ [TD.mk p1 e1 s1 u1 a2 rl2 q2 b2 ll2 m2 rs2 ls2], by omega, by go_num, HSM.out ⟨p1, e1, s1, u1, a2, rl2, q2, b2, ll2, m2, rs2, ls2⟩ rfl, HST.out⟩, by simp [intOf]; omega⟩
        · obtain rfl : j = tl := by omega
          have cb := fun o => fb_cell (HK.out.under hg.out.bel).b o
          have c3 := fun o => fb_cell hg.out.x o
          have HR2 : Hid (ts'.map TD.strip = ts.map TD.strip) := show _ = _ by have h := htm.out; rwa [List.take_of_length_le (by rw [HLT.out]; exact Nat.le_refl _)] at h
          have HZ : Hid (∀ Z ∈ fabBlks rs' ts' none, Z < wr.heap.size) := fun Z hZ => (hg.out.own.lt hZ).2
          have HNU : Hid (Nums wr.drew ea el es) := ((HK.out.under hg.out.bel).under ((Below.refl _ _).drew)).nums
          have hg2 : Hid (FO w wr.drew X a k c none 0 0 d j e now rs' [] ts') := hg.out.under ((Below.refl _ _).drew)
          clear htm
          go_wp2
          go_region_law (first
            | (refine step_append_own_any (by rfl) _ _ 23 (by rfl) wr.heap.size 2 j0 _ 1 8 Tryz.underlying23 hj0 hy0 hy1 hy2 (by rfl) (by omega) (.slice none 0 0) 0 [] (by rfl) (World.ownsRow_nil _ _ _ _) ea el ec (numCells es) (by rfl) (by rw [List.length_map, HLE.out, Nat.mul_one]) HENIL.out (nums_news HNU.out) (numCells_one _) (by unfold maxLen; omega) (by omega) (Nat.le_refl _) ?_; intro v2 w3 ho3 hgr3; simp only [Nat.zero_add, List.nil_append] at ho3; obtain ⟨a4, c4, rfl, _⟩ := own_numIn ho3; have hst := FO.eps hg2.out HZ.out hg.out.bel.size ho3 hgr3 (fb_lt hg.out.x); have hc3 := fun o => fb_cell hst.1 o; have hf4 := fun o => unfrozen_of_block0 hst.1 o; have HST : Hid _ := hst.2; clear ho3 hgr3 hst))
          all_goals
            have c5 := fun o => fb_cell HST.out.x o
            have cy := fun o => fb_cell HST.out.y o
            have fy := fun o => unfrozen_of_block0 HST.out.y o
            go_wp2
            have hgy := grown_set4 (w3.setCell ⟨X, 1, none⟩ (.slice a4 el c4)) w.heap.size 0 (.slice a k c) (.slice a4 el c4) (.slice d j e) (.int .i64 now)
            exact bodyPost_ret (v := fabVal a k c a4 el c4 d j e now) (by simp [results, Tryz.results116, go_sem, cy]) rfl ⟨a, c, a4, c4, d, e, rs', ts', rfl, HST.out.own.box HST.out.y fab_ne hgy, ⟨HR1.out, HR2.out⟩, (((HST.out.bel.setCell (p := ⟨w.heap.size, 0, none⟩) (Nat.le_refl _) _).setCell (p := ⟨w.heap.size, 0 + 1, none⟩) (Nat.le_refl _) _).setCell (p := ⟨w.heap.size, 0 + 2, none⟩) (Nat.le_refl _) _).setCell (p := ⟨w.heap.size, 0 + 3, none⟩) (Nat.le_refl _) _⟩
end Go.Proofs.YtneiihikcnjglaaGreatDoor
/- The specification's copy of a fabric: what stands while it is made (the epochs first). -/
namespace Go.Proofs.YtneiihikcnjglaaGreatDoor
open Go.RowKit Go.Maps
section
variable {w u v : World} {X : Nat} {ra : Option Addr} {rl rc : Nat} {ea : Option Addr} {el ec : Nat} {ta : Option Addr} {tl tc : Nat} {now : Int} {rs : List RD} {es : List Int} {ts : List TD}
theorem nodup_mid {l n r : List Nat} (h : (l ++ r).Nodup) (hn : n.Nodup) (hd : ∀ x ∈ l ++ r, ∀ y ∈ n, x ≠ y) : ((l ++ n) ++ r).Nodup := by
  have h1 : ((l ++ r) ++ n).Nodup := nodup_two h hn hd
  refine (List.Perm.nodup_iff ?_).1 h1
  rw [List.append_assoc, List.append_assoc]
  exact List.Perm.append_left l List.perm_append_comm
/-- A ring more, the epochs being there. -/
theorem FO.ringE {a1 : Option Addr} {c1 b1 : Nat} {r : RD} (h : FO w u X ra rl rc ea el ec ta tl tc now rs es ts) (hr : r.own u b1) (hb1 : ∀ Z ∈ fabBlks rs ts ea, Z < b1) (hwb : w.heap.size ≤ b1)
    (ho : v.ownsRow w.heap.size 92 4 (.slice a1 (rl + 1) c1) (rl + 1) (rdCells rs ++ r.cells)) (hg : u.grownBy v (Value.slice ra rl rc).ownBlock) :
    v.heap[X]? = some (fabO ra rl rc ea el ec ta tl tc now) ∧ FO w (v.setCell ⟨X, 0, none⟩ (.slice a1 (rl + 1) c1)) X a1 (rl + 1) c1 ea el ec ta tl tc now (rs ++ [r]) es ts := by
  rw [ownBlock_slice] at hg
  have hx : v.heap[X]? = some (fabO ra rl rc ea el ec ta tl tc now) := (hg.block _ (fb_lt h.x) (fun e => own_ne h.own.r h.x (by decide) e.symm)).trans h.x
  have hy : v.heap[w.heap.size]? = some (fabO none 0 0 none 0 0 none 0 0 0) := (hg.block _ (fb_lt h.y) (fun e => own_ne h.own.r h.y (by decide) e.symm)).trans h.y
  have hrow : ∀ (Z : Nat), blk? ra = some Z → ∃ C, u.heap[Z]? = some (.cells C 92 (0, 0)) := fun Z hZ => own_typed h.own.r hZ
  have hri : ∀ q ∈ rs ++ [r], q.own v w.heap.size := fun q hq => by
    rcases List.mem_append.1 hq with hq | hq
    · exact (h.own.ri q hq).keep hg fun Z hZ e => by obtain ⟨C, hC⟩ := hrow Z e; exact (h.own.ri q hq).not hC (by decide) (by decide) hZ
    · rw [List.mem_singleton.1 hq]
      exact (hr.keep hg fun Z hZ e => by obtain ⟨C, hC⟩ := hrow Z e; exact hr.not hC (by decide) (by decide) hZ).mono hwb
  have hti : ∀ q ∈ ts, q.own v w.heap.size := fun q hq => (h.own.ti q hq).keep hg fun Z hZ e => by obtain ⟨C, hC⟩ := hrow Z e; exact (h.own.ti q hq).not hC (by decide) hZ
  have hor : ∀ {e size n c : Nat} {a : Option Addr} {xs : List Value}, e ≠ 92 → u.ownsRow w.heap.size e size (.slice a n c) n xs → v.ownsRow w.heap.size e size (.slice a n c) n xs := fun hne hh => own_keep hh hg (by
    by_cases e : blk? ra = none
    · exact .inl e
    · obtain ⟨Z, hZ⟩ := Option.ne_none_iff_exists'.1 e
      exact .inr (by rw [hZ]; exact own_ne_own h.own.r hh hne.symm hZ))
  have hbel : Below w.heap.size w v := h.bel.grown hg h.bel.size (fun k e => (own_blk_lt h.own.r e).1)
  have hnd : (fabBlks (rs ++ [r]) ts ea).Nodup := by
    have h0 := h.own.nd
    simp only [fabBlks] at h0 hb1 ⊢
    rw [List.flatMap_append]
    refine nodup_mid h0 (by simpa using hr.nd) fun x hx y hy e => ?_
    have h1 := hb1 x hx
    have h2 := (hr.lt (by simpa using hy)).1
    omega
  have hF : OwnFab v w.heap.size a1 (rl + 1) c1 ea el ec ta tl tc (rs ++ [r]) es ts :=
    ⟨by rw [show rdCells (rs ++ [r]) = rdCells rs ++ r.cells by simp [rdCells]]; exact ho, hor (by decide) h.own.e, hor (by decide) h.own.t, hri, hti, hnd⟩
  have hgX := grown_setc v X 0 (.slice a1 (rl + 1) c1)
  exact ⟨hx, (hgX.block _ (fb_lt hy) (by have := h.lx; simp; omega)).trans hy, heap_setCell_same v X 0 _ _ _ hx, hF.box hx fab_ne hgX, h.lx, hbel.setCell (p := ⟨X, 0, none⟩) (Nat.le_of_lt h.lx) _⟩
/-- A transaction more, the epochs being there. -/
theorem FO.txnE {a1 : Option Addr} {c1 b1 : Nat} {t : TD} (h : FO w u X ra rl rc ea el ec ta tl tc now rs es ts) (hr : t.own u b1) (hb1 : ∀ Z ∈ fabBlks rs ts ea, Z < b1) (hwb : w.heap.size ≤ b1)
    (ho : v.ownsRow w.heap.size 67 6 (.slice a1 (tl + 1) c1) (tl + 1) (tdCells ts ++ t.cells)) (hg : u.grownBy v (Value.slice ta tl tc).ownBlock) :
    v.heap[X]? = some (fabO ra rl rc ea el ec ta tl tc now) ∧ FO w (v.setCell ⟨X, 2, none⟩ (.slice a1 (tl + 1) c1)) X ra rl rc ea el ec a1 (tl + 1) c1 now rs es (ts ++ [t]) := by
  rw [ownBlock_slice] at hg
  have hx : v.heap[X]? = some (fabO ra rl rc ea el ec ta tl tc now) := (hg.block _ (fb_lt h.x) (fun e => own_ne h.own.t h.x (by decide) e.symm)).trans h.x
  have hy : v.heap[w.heap.size]? = some (fabO none 0 0 none 0 0 none 0 0 0) := (hg.block _ (fb_lt h.y) (fun e => own_ne h.own.t h.y (by decide) e.symm)).trans h.y
  have hrow : ∀ (Z : Nat), blk? ta = some Z → ∃ C, u.heap[Z]? = some (.cells C 67 (0, 0)) := fun Z hZ => own_typed h.own.t hZ
  have hti : ∀ q ∈ ts ++ [t], q.own v w.heap.size := fun q hq => by
    rcases List.mem_append.1 hq with hq | hq
    · exact (h.own.ti q hq).keep hg fun Z hZ e => by obtain ⟨C, hC⟩ := hrow Z e; exact (h.own.ti q hq).not hC (by decide) hZ
    · rw [List.mem_singleton.1 hq]
      exact (hr.keep hg fun Z hZ e => by obtain ⟨C, hC⟩ := hrow Z e; exact hr.not hC (by decide) hZ).mono hwb
  have hri : ∀ q ∈ rs, q.own v w.heap.size := fun q hq => (h.own.ri q hq).keep hg fun Z hZ e => by obtain ⟨C, hC⟩ := hrow Z e; exact (h.own.ri q hq).not hC (by decide) (by decide) hZ
  have hor : ∀ {e size n c : Nat} {a : Option Addr} {xs : List Value}, e ≠ 67 → u.ownsRow w.heap.size e size (.slice a n c) n xs → v.ownsRow w.heap.size e size (.slice a n c) n xs := fun hne hh => own_keep hh hg (by
    by_cases e : blk? ta = none
    · exact .inl e
    · obtain ⟨Z, hZ⟩ := Option.ne_none_iff_exists'.1 e
      exact .inr (by rw [hZ]; exact own_ne_own h.own.t hh hne.symm hZ))
  have hbel : Below w.heap.size w v := h.bel.grown hg h.bel.size (fun k e => (own_blk_lt h.own.t e).1)
  have hnd : (fabBlks rs (ts ++ [t]) ea).Nodup := by
    have h0 := h.own.nd
    simp only [fabBlks] at h0 hb1 ⊢
    rw [List.flatMap_append, ← List.append_assoc, ← List.append_assoc]
    rw [← List.append_assoc] at h0 hb1
    refine nodup_mid h0 (by simpa using hr.nd) fun x hx y hy e => ?_
    have h1 := hb1 x hx
    have h2 := (hr.lt (by simpa using hy)).1
    omega
  have hF : OwnFab v w.heap.size ra rl rc ea el ec a1 (tl + 1) c1 rs es (ts ++ [t]) :=
    ⟨hor (by decide) h.own.r, hor (by decide) h.own.e, by rw [show tdCells (ts ++ [t]) = tdCells ts ++ t.cells by simp [tdCells]]; exact ho, hri, hti, hnd⟩
  have hgX := grown_setc v X 2 (.slice a1 (tl + 1) c1)
  exact ⟨hx, (hgX.block _ (fb_lt hy) (by have := h.lx; simp; omega)).trans hy, heap_setCell_same v X 2 _ _ _ hx, hF.box hx fab_ne hgX, h.lx, hbel.setCell (p := ⟨X, 2, none⟩) (Nat.le_of_lt h.lx) _⟩
end
end Go.Proofs.YtneiihikcnjglaaGreatDoor
/- The specification's copy of a fabric, walked. -/
namespace Go.Proofs.YtneiihikcnjglaaGreatDoor
open Go.RowKit Go.Maps
attribute [local go_sem ↓] Go.wp_at_zero Go.wp_at_succ
set_option linter.unusedSimpArgs false
set_option linter.unusedVariables false

/-- Ahead of the epochs' copy: the answer's box, an empty row at b. -/
structure E0 (W u : World) (b : Nat) : Prop where
  bel : Below W.heap.size W u
  y : u.heap[W.heap.size]? = some (fabO none 0 0 none 0 0 none 0 0 0)
  row : u.ownsRow W.heap.size 2 1 (.slice (some ⟨b, 0, none⟩) 0 0) 0 []
  lb : W.heap.size < b
/-- Behind it: the copy's box at X. -/
structure E1 (W u : World) (X : Nat) (a : Option Addr) (el c : Nat) (es : List Int) : Prop where
  bel : Below W.heap.size W u
  y : u.heap[W.heap.size]? = some (fabO none 0 0 none 0 0 none 0 0 0)
  x : u.heap[X]? = some (fabO none 0 0 none 0 0 none 0 0 0)
  lx : W.heap.size < X
  row : u.ownsRow W.heap.size 2 1 (.slice a el c) el (numCells es)
theorem E0.app1 {W u v : World} {b : Nat} (h : E0 W u b) (hg : u.grownBy v (Value.slice (some ⟨b, 0, none⟩) 0 0).ownBlock) : Below W.heap.size W v ∧ v.heap[W.heap.size]? = some (fabO none 0 0 none 0 0 none 0 0 0) := by
  have hl := h.lb
  have hr : (Value.slice (some ⟨b, 0, none⟩) 0 0).ownBlock = some b := rfl
  rw [hr] at hg
  exact ⟨h.bel.grown hg h.bel.size (fun k e => by cases e; omega), (hg.block _ (fb_lt h.y) (by simp; omega)).trans h.y⟩
theorem E0.app2 {W u v : World} {b X : Nat} {a : Option Addr} {el c : Nat} {es : List Int} (h : E0 W u b) (hx : u.heap[X]? = some (fabO none 0 0 none 0 0 none 0 0 0) ∧ W.heap.size < X ∧ X ≠ b) (hg : u.grownBy v (Value.slice (some ⟨b, 0, none⟩) 0 0).ownBlock) (ho : v.ownsRow W.heap.size 2 1 (.slice a el c) el (numCells es)) : E1 W v X a el c es := by
  obtain ⟨h1, h2⟩ := h.app1 hg
  have hr : (Value.slice (some ⟨b, 0, none⟩) 0 0).ownBlock = some b := rfl
  rw [hr] at hg
  exact ⟨h1, h2, (hg.block _ (fb_lt hx.1) (by simp; exact hx.2.2)).trans hx.1, hx.2.1, ho⟩
theorem e1_new {W v : World} {a : Option Addr} {el c : Nat} {es : List Int} (hb : Below W.heap.size W v) (hy : v.heap[W.heap.size]? = some (fabO none 0 0 none 0 0 none 0 0 0)) (ho : v.ownsRow W.heap.size 2 1 (.slice a el c) el (numCells es)) : E1 W (v.alloc (fabO none 0 0 none 0 0 none 0 0 0)) v.heap.size a el c es :=
  ⟨below_tr hb (fbelow_new _ _), ((fbelow_new _ _).block _ (fb_lt hy)).trans hy, heap_alloc_new _ _, fb_lt hy, own_below ho (fbelow_new _ _)⟩
theorem E1.start {W u : World} {X : Nat} {a : Option Addr} {el c : Nat} {es : List Int} {now : Int} (h : E1 W u X a el c es) : FO W (set4 u X 0 (.slice none 0 0) (.slice a el c) (.slice none 0 0) (.int .i64 now)) X none 0 0 a el c none 0 0 now [] es [] := by
  have hg := grown_set4 u X 0 (.slice none 0 0) (.slice a el c) (.slice none 0 0) (.int .i64 now)
  have hl := h.lx
  refine ⟨(hg.block _ (fb_lt h.y) (by simp; omega)).trans h.y, ?_, ⟨World.ownsRow_nil _ _ _ _, own_keep h.row hg (.inr (own_ne h.row h.x (by decide))), World.ownsRow_nil _ _ _ _, (fun _ h => by cases h), (fun _ h => by cases h), by simpa [fabBlks] using nodup_opt (blk? a)⟩, hl, h.bel.grown hg h.bel.size (fun k e => by cases e; omega)⟩
  have h0 := heap_setCell_same u X 0 _ _ (.slice none 0 0) h.x
  have h1 := heap_setCell_same _ X 1 _ _ (.slice a el c) h0
  have h2 := heap_setCell_same _ X 2 _ _ (.slice none 0 0) h1
  exact heap_setCell_same _ X 3 _ _ (.int .i64 now) h2
theorem fo_new {W v : World} {a : Option Addr} {el c : Nat} {es : List Int} {now : Int} (hb : Below W.heap.size W v) (hy : v.heap[W.heap.size]? = some (fabO none 0 0 none 0 0 none 0 0 0)) (ho : v.ownsRow W.heap.size 2 1 (.slice a el c) el (numCells es)) : FO W (v.alloc (fabO none 0 0 a el c none 0 0 now)) v.heap.size none 0 0 a el c none 0 0 now [] es [] :=
  ⟨((fbelow_new _ _).block _ (fb_lt hy)).trans hy, heap_alloc_new _ _, ⟨World.ownsRow_nil _ _ _ _, own_below ho (fbelow_new _ _), World.ownsRow_nil _ _ _ _, (fun _ h => by cases h), (fun _ h => by cases h), by simpa [fabBlks] using nodup_opt (blk? a)⟩, fb_lt hy, below_tr hb (fbelow_new _ _)⟩
theorem e0_row {W : World} (u : World) (h : W.heap.size ≤ u.heap.size) : (u.alloc (.cells #[] 2)).ownsRow W.heap.size 2 1 (.slice (some ⟨u.heap.size, 0, none⟩) 0 0) 0 [] := own_base (t_row u 2 1) h
set_option maxRecDepth 100000 in
set_option maxHeartbeats 4000000 in
theorem spec_fcopy (ra : Option Addr) (rl rc : Nat) (ea : Option Addr) (el ec : Nat) (ta : Option Addr) (tl tc : Nat) (now : Int) (rs : List RD) (es : List Int) (ts : List TD) (w : World)
    (hi : FIn w ra rl ea el ta tl rs es ts) (hen : ea = none → el = 0 ∧ ec = 0) :
    Calls Tryz.prog 46 #[fabVal ra rl rc ea el ec ta tl tc now] w fun x w' => ∃ d : FD, x = .returned (d.val now) ∧ d.own w' w.heap.size ∧ d.rs.map RD.strip = rs.map RD.strip ∧ d.es = es ∧ d.ts.map TD.strip = ts.map TD.strip ∧ d.rl = rl ∧ d.el = el ∧ d.tl = tl ∧ Below w.heap.size w w' := by
  obtain ⟨i0, hi0, hz0, hz1, hz2⟩ := info_parts info_ringF
  obtain ⟨t0, ht0, hu0, hu1, hu2⟩ := info_parts info_txnF
  obtain ⟨j0, hj0, hy0, hy1, hy2⟩ := info_parts info_i64
  have HI : Hid (FIn w ra rl ea el ta tl rs es ts) := hi
  have HLR : Hid (rs.length = rl) := hi.rs.1
  have HLT : Hid (ts.length = tl) := hi.ts.1
  have HLE : Hid (es.length = el) := hi.es.1
  have hrl := hi.rle
  have htl := hi.tle
  have hel := hi.ele
  have HEN : Hid (ea = none → el = 0 ∧ ec = 0) := hen
  clear hi hen
  obtain ⟨W, hW⟩ : ∃ W, w.alloc (fabO ra rl rc ea el ec ta tl tc now) = W := ⟨_, rfl⟩
  have HBW : Hid (Below w.heap.size w W) := hW ▸ fbelow_new _ _
  have HWS : Hid (W.heap.size = w.heap.size + 1) := show _ = _ by rw [← hW]; simp
  have HSRC : Hid (∀ v, Below W.heap.size W v → v.heap[w.heap.size]? = some (fabO ra rl rc ea el ec ta tl tc now)) := fun v hb => (hb.block _ (by rw [HWS.out]; omega)).trans (by subst hW; exact heap_alloc_new _ _)
  have HBB : Hid (∀ v, Below W.heap.size W v → Below w.heap.size w v) := fun v hb => HBW.out.trans (hb.mono HBW.out.size)
  have HNU : Hid (∀ v, Below W.heap.size W v → Nums v ea el es) := fun v hb => nums_below HI.out.es (HBB.out v hb)
  have HY0 : Hid (FB W (W.alloc (fabO none 0 0 none 0 0 none 0 0 0)) (fabO none 0 0 none 0 0 none 0 0 0)) := fb_new _ _ _
  have HU1 : Hid (E0 W ((W.alloc (fabO none 0 0 none 0 0 none 0 0 0)).alloc (.cells #[] 2)).drew (W.heap.size + 1)) := ⟨(below_tr (fbelow_new _ _) (fbelow_new _ _)).drew, ((fbelow_new _ _).block _ (by simp)).trans (heap_alloc_new _ _), by have h := e0_row (W := W) (W.alloc (fabO none 0 0 none 0 0 none 0 0 0)) (by simp); rw [World.size_alloc] at h; exact own_below h ((Below.refl _ _).drew), by omega⟩
  have HU2 : Hid (E0 W (((W.alloc (fabO none 0 0 none 0 0 none 0 0 0)).alloc (.cells #[] 2)).alloc (fabO none 0 0 none 0 0 none 0 0 0)).drew (W.heap.size + 1)) := ⟨(below_tr (below_tr (fbelow_new _ _) (fbelow_new _ _)) (fbelow_new _ _)).drew, ((fbelow_new _ _).block _ (by simp; omega)).trans (((fbelow_new _ _).block _ (by simp)).trans (heap_alloc_new _ _)), by have h := e0_row (W := W) (W.alloc (fabO none 0 0 none 0 0 none 0 0 0)) (by simp); rw [World.size_alloc] at h; exact own_below h ((fbelow_new _ _).drew), by omega⟩
  have HU3 : Hid (Below W.heap.size W ((W.alloc (fabO none 0 0 none 0 0 none 0 0 0)).alloc (fabO none 0 0 none 0 0 none 0 0 0)).drew) := (below_tr (fbelow_new _ _) (fbelow_new _ _)).drew
  have HU4 : Hid (E0 W (((W.alloc (fabO none 0 0 none 0 0 none 0 0 0)).alloc (fabO none 0 0 none 0 0 none 0 0 0)).alloc (.cells #[] 2)).drew (W.heap.size + 1 + 1)) := ⟨(below_tr (below_tr (fbelow_new _ _) (fbelow_new _ _)) (fbelow_new _ _)).drew, ((fbelow_new _ _).block _ (by simp; omega)).trans (((fbelow_new _ _).block _ (by simp)).trans (heap_alloc_new _ _)), by have h := e0_row (W := W) ((W.alloc (fabO none 0 0 none 0 0 none 0 0 0)).alloc (fabO none 0 0 none 0 0 none 0 0 0)) (by simp; omega); rw [World.size_alloc, World.size_alloc] at h; exact own_below h ((Below.refl _ _).drew), by omega⟩
  have HX2 : Hid ((((W.alloc (fabO none 0 0 none 0 0 none 0 0 0)).alloc (.cells #[] 2)).alloc (fabO none 0 0 none 0 0 none 0 0 0)).drew.heap[W.heap.size + 1 + 1]? = some (fabO none 0 0 none 0 0 none 0 0 0) ∧ W.heap.size < W.heap.size + 1 + 1 ∧ W.heap.size + 1 + 1 ≠ W.heap.size + 1) := ⟨by have h := heap_alloc_new ((W.alloc (fabO none 0 0 none 0 0 none 0 0 0)).alloc (.cells #[] 2)) (fabO none 0 0 none 0 0 none 0 0 0); rw [World.size_alloc, World.size_alloc] at h; exact h, by omega, by omega⟩
  have HX4 : Hid ((((W.alloc (fabO none 0 0 none 0 0 none 0 0 0)).alloc (fabO none 0 0 none 0 0 none 0 0 0)).alloc (.cells #[] 2)).drew.heap[W.heap.size + 1]? = some (fabO none 0 0 none 0 0 none 0 0 0) ∧ W.heap.size < W.heap.size + 1 ∧ W.heap.size + 1 ≠ W.heap.size + 1 + 1) := ⟨by have h := heap_alloc_new (W.alloc (fabO none 0 0 none 0 0 none 0 0 0)) (fabO none 0 0 none 0 0 none 0 0 0); rw [World.size_alloc] at h; exact ((fbelow_new _ _).block _ (by simp)).trans h, by omega, by omega⟩
  go_enter Tryz.func46, Tryz.ntmps46
  go_upto_region 1 with fail
  clear hW
  go_cut [3] (fun p wc => ∃ (X : Nat) (a : Option Addr) (c : Nat), p = .pointer (some ⟨X, 0, none⟩) ∧ Hid (FO W wc X none 0 0 a el c none 0 0 now [] es []))
  case first =>
    refine wp_region_held_drew (S := (fun x => ∀ o, x.cell? ⟨w.heap.size, o, none⟩ = (#[.slice ra rl rc, .slice ea el ec, .slice ta tl tc, .int .i64 now] : Array Value)[o]?)) (by kernel_rfl) (fun o => fb_cell (HSRC.out _ HY0.out.bel) o) (fun hHeld => ?_)
    refine wpAnyH_take (i := 1) (v := ?_) rfl (by kernel_rfl) (by kernel_rfl) (by kernel_rfl) (fun _ _ _ h => h) (Or.inl ⟨by rfl, ?_⟩) hHeld ?_
    rotate_left
    · intro wy hSw; (try dsimp only at hSw); go_simp; (try with_reducible rfl)
    try simp only [Act.put, List.getElem_toArray, List.getElem_cons_zero, List.getElem_cons_succ, List.setIfInBounds_toArray, List.set_cons_zero, List.set_cons_succ]
    refine wpAnyH_take (i := 2) (v := ?_) rfl (by kernel_rfl) (by kernel_rfl) (by kernel_rfl) (fun _ _ _ h => h) (Or.inl ⟨by rfl, ?_⟩) hHeld ?_
    rotate_left
    · intro wy hSw; (try dsimp only at hSw); go_simp; (try with_reducible rfl)
    try simp only [Act.put, List.getElem_toArray, List.getElem_cons_zero, List.getElem_cons_succ, List.setIfInBounds_toArray, List.set_cons_zero, List.set_cons_succ]
    refine wpAnyH_take (i := 4) (v := ?_) rfl (by kernel_rfl) (by kernel_rfl) (by kernel_rfl) (fun _ _ _ h => h) (Or.inl ⟨by rfl, ?_⟩) hHeld ?_
    rotate_left
    · intro wy hSw; (try dsimp only at hSw); go_simp; (try with_reducible rfl)
    try simp only [Act.put, List.getElem_toArray, List.getElem_cons_zero, List.getElem_cons_succ, List.setIfInBounds_toArray, List.set_cons_zero, List.set_cons_succ]
    refine wpAnyH_take (i := 5) (v := ?_) rfl (by kernel_rfl) (by kernel_rfl) (by kernel_rfl) (fun _ _ _ h => h) (Or.inl ⟨by rfl, ?_⟩) hHeld ?_
    rotate_left
    · intro wy hSw; (try dsimp only at hSw); go_simp; (try with_reducible rfl)
    try simp only [Act.put, List.getElem_toArray, List.getElem_cons_zero, List.getElem_cons_succ, List.setIfInBounds_toArray, List.set_cons_zero, List.set_cons_succ]
    refine wpAnyH_ready (rs := [0, 7]) (by kernel_rfl) (by simp) ?_
    refine AllReadyH.cons rfl (fun K hK => ?_) (AllReadyH.cons rfl (fun K hK => ?_) AllReadyH.nil)
    · skip
      go_simp
      refine hK.out _ _ ?_ (fun hHeld => ?_)
      · exact fun o => fb_cell (HSRC.out _ (by first | exact HU1.out.bel | exact HU2.out.bel | exact HU3.out | exact HU4.out.bel)) o
      clear hK K
      try simp only [Act.put, List.getElem_toArray, List.getElem_cons_zero, List.getElem_cons_succ, List.setIfInBounds_toArray, List.set_cons_zero, List.set_cons_succ]
      refine wpAnyH_ready (rs := [3, 7]) (by kernel_rfl) (by simp) ?_
      refine AllReadyH.cons rfl (fun K hK => ?_) (AllReadyH.cons rfl (fun K hK => ?_) AllReadyH.nil)
      · skip
        refine step_append_own_any (by rfl) _ _ 23 (by rfl) W.heap.size 2 j0 _ 1 8 Tryz.underlying23 hj0 hy0 hy1 hy2 (by rfl) (by omega) _ 0 [] (by rfl) (by first | exact HU1.out.row | exact HU2.out.row | exact HU4.out.row) ea el ec (numCells es) (by rfl) (by rw [List.length_map, HLE.out, Nat.mul_one]) HEN.out (nums_news (HNU.out _ (by first | exact HU1.out.bel | exact HU2.out.bel | exact HU4.out.bel))) (numCells_one _) (by unfold maxLen; omega) (by omega) (by first | exact HU1.out.bel.size | exact HU2.out.bel.size | exact HU4.out.bel.size) ?_
        intro v2 w3 ho3 hg3
        simp only [Nat.zero_add, List.nil_append] at ho3
        obtain ⟨a4, c4, rfl⟩ := own_numV ho3
        have HD5 : Hid _ := HU1.out.app1 hg3
        have HB5 : Hid (Below W.heap.size W w3) := HD5.out.1
        have HO5 : Hid _ := ho3
        clear ho3 hg3
        refine hK.out _ _ ?_ (fun hHeld => ?_)
        · exact fun o => fb_cell (HSRC.out _ (by first | exact HB5.out)) o
        clear hK K
        try simp only [Act.put, List.getElem_toArray, List.getElem_cons_zero, List.getElem_cons_succ, List.setIfInBounds_toArray, List.set_cons_zero, List.set_cons_succ]
        refine wpAnyH_take (i := 6) (v := ?_) rfl (by kernel_rfl) (by kernel_rfl) (by kernel_rfl) (fun _ _ _ h => h) (Or.inl ⟨by rfl, ?_⟩) hHeld ?_
        rotate_left
        · intro wy hSw; (try dsimp only at hSw); go_simp; (try with_reducible rfl)
        try simp only [Act.put, List.getElem_toArray, List.getElem_cons_zero, List.getElem_cons_succ, List.setIfInBounds_toArray, List.set_cons_zero, List.set_cons_succ]
        refine wpAnyH_ready (rs := [7]) (by kernel_rfl) (by simp) ?_
        refine AllReadyH.cons rfl (fun K hK => ?_) AllReadyH.nil
        go_simp
        have HE : Hid (E1 W (w3.alloc (fabO none 0 0 none 0 0 none 0 0 0)) w3.heap.size a4 el c4 es) := e1_new HD5.out.1 HD5.out.2 HO5.out
        refine hK.out _ _ ?_ (fun hHeld => ?_)
        · exact fun o => fb_cell (HSRC.out _ (by first | exact HE.out.bel)) o
        clear hK K
        try simp only [Act.put, List.getElem_toArray, List.getElem_cons_zero, List.getElem_cons_succ, List.setIfInBounds_toArray, List.set_cons_zero, List.set_cons_succ]
        refine wpAnyH_ready (rs := [8]) (by kernel_rfl) (by simp) ?_
        refine AllReadyH.cons rfl (fun K hK => ?_) AllReadyH.nil
        have cx := fun o => fb_cell HE.out.x o
        have fx := fun o => unfrozen_of_block0 HE.out.x o
        go_simp
        have HF : Hid (FO W _ _ none 0 0 a4 el c4 none 0 0 now [] es []) := (by first | exact fo_new (now := now) HD5.out.1 HD5.out.2 HO5.out | exact HE.out.start (now := now))
        refine hK.out _ _ ?_ (fun hHeld => ?_)
        · exact fun o => fb_cell (HSRC.out _ HF.out.bel) o
        clear hK K
        try simp only [Act.put, List.getElem_toArray, List.getElem_cons_zero, List.getElem_cons_succ, List.setIfInBounds_toArray, List.set_cons_zero, List.set_cons_succ]
        refine wpAnyH_done (by kernel_rfl) ?_ _
        go_wp2_with fail
        go_meet
        exact ⟨_, a4, c4, rfl, HF⟩
      · skip
        go_simp
        refine hK.out _ _ ?_ (fun hHeld => ?_)
        · exact fun o => fb_cell (HSRC.out _ (by first | exact HU1.out.bel | exact HU2.out.bel | exact HU3.out | exact HU4.out.bel)) o
        clear hK K
        try simp only [Act.put, List.getElem_toArray, List.getElem_cons_zero, List.getElem_cons_succ, List.setIfInBounds_toArray, List.set_cons_zero, List.set_cons_succ]
        refine wpAnyH_ready (rs := [3]) (by kernel_rfl) (by simp) ?_
        refine AllReadyH.cons rfl (fun K hK => ?_) AllReadyH.nil
        refine step_append_own_any (by rfl) _ _ 23 (by rfl) W.heap.size 2 j0 _ 1 8 Tryz.underlying23 hj0 hy0 hy1 hy2 (by rfl) (by omega) _ 0 [] (by rfl) (by first | exact HU1.out.row | exact HU2.out.row | exact HU4.out.row) ea el ec (numCells es) (by rfl) (by rw [List.length_map, HLE.out, Nat.mul_one]) HEN.out (nums_news (HNU.out _ (by first | exact HU1.out.bel | exact HU2.out.bel | exact HU4.out.bel))) (numCells_one _) (by unfold maxLen; omega) (by omega) (by first | exact HU1.out.bel.size | exact HU2.out.bel.size | exact HU4.out.bel.size) ?_
        intro v2 w3 ho3 hg3
        simp only [Nat.zero_add, List.nil_append] at ho3
        obtain ⟨a4, c4, rfl⟩ := own_numV ho3
        have hEX : E1 W w3 _ a4 el c4 es := (by first | exact HU2.out.app2 HX2.out hg3 ho3 | exact HU4.out.app2 HX4.out hg3 ho3)
        have HE : Hid _ := hEX
        clear hEX
        have HB5 : Hid (Below W.heap.size W w3) := HE.out.bel
        clear ho3 hg3
        refine hK.out _ _ ?_ (fun hHeld => ?_)
        · exact fun o => fb_cell (HSRC.out _ (by first | exact HB5.out)) o
        clear hK K
        try simp only [Act.put, List.getElem_toArray, List.getElem_cons_zero, List.getElem_cons_succ, List.setIfInBounds_toArray, List.set_cons_zero, List.set_cons_succ]
        refine wpAnyH_take (i := 6) (v := ?_) rfl (by kernel_rfl) (by kernel_rfl) (by kernel_rfl) (fun _ _ _ h => h) (Or.inl ⟨by rfl, ?_⟩) hHeld ?_
        rotate_left
        · intro wy hSw; (try dsimp only at hSw); go_simp; (try with_reducible rfl)
        try simp only [Act.put, List.getElem_toArray, List.getElem_cons_zero, List.getElem_cons_succ, List.setIfInBounds_toArray, List.set_cons_zero, List.set_cons_succ]
        refine wpAnyH_ready (rs := [8]) (by kernel_rfl) (by simp) ?_
        refine AllReadyH.cons rfl (fun K hK => ?_) AllReadyH.nil
        have cx := fun o => fb_cell HE.out.x o
        have fx := fun o => unfrozen_of_block0 HE.out.x o
        go_simp
        have HF : Hid (FO W _ _ none 0 0 a4 el c4 none 0 0 now [] es []) := (by first | exact fo_new (now := now) HD5.out.1 HD5.out.2 HO5.out | exact HE.out.start (now := now))
        refine hK.out _ _ ?_ (fun hHeld => ?_)
        · exact fun o => fb_cell (HSRC.out _ HF.out.bel) o
        clear hK K
        try simp only [Act.put, List.getElem_toArray, List.getElem_cons_zero, List.getElem_cons_succ, List.setIfInBounds_toArray, List.set_cons_zero, List.set_cons_succ]
        refine wpAnyH_done (by kernel_rfl) ?_ _
        go_wp2_with fail
        go_meet
        exact ⟨_, a4, c4, rfl, HF⟩
    · skip
      go_simp
      refine hK.out _ _ ?_ (fun hHeld => ?_)
      · exact fun o => fb_cell (HSRC.out _ (by first | exact HU1.out.bel | exact HU2.out.bel | exact HU3.out | exact HU4.out.bel)) o
      clear hK K
      try simp only [Act.put, List.getElem_toArray, List.getElem_cons_zero, List.getElem_cons_succ, List.setIfInBounds_toArray, List.set_cons_zero, List.set_cons_succ]
      refine wpAnyH_ready (rs := [0]) (by kernel_rfl) (by simp) ?_
      refine AllReadyH.cons rfl (fun K hK => ?_) AllReadyH.nil
      go_simp
      refine hK.out _ _ ?_ (fun hHeld => ?_)
      · exact fun o => fb_cell (HSRC.out _ (by first | exact HU1.out.bel | exact HU2.out.bel | exact HU3.out | exact HU4.out.bel)) o
      clear hK K
      try simp only [Act.put, List.getElem_toArray, List.getElem_cons_zero, List.getElem_cons_succ, List.setIfInBounds_toArray, List.set_cons_zero, List.set_cons_succ]
      refine wpAnyH_ready (rs := [3]) (by kernel_rfl) (by simp) ?_
      refine AllReadyH.cons rfl (fun K hK => ?_) AllReadyH.nil
      refine step_append_own_any (by rfl) _ _ 23 (by rfl) W.heap.size 2 j0 _ 1 8 Tryz.underlying23 hj0 hy0 hy1 hy2 (by rfl) (by omega) _ 0 [] (by rfl) (by first | exact HU1.out.row | exact HU2.out.row | exact HU4.out.row) ea el ec (numCells es) (by rfl) (by rw [List.length_map, HLE.out, Nat.mul_one]) HEN.out (nums_news (HNU.out _ (by first | exact HU1.out.bel | exact HU2.out.bel | exact HU4.out.bel))) (numCells_one _) (by unfold maxLen; omega) (by omega) (by first | exact HU1.out.bel.size | exact HU2.out.bel.size | exact HU4.out.bel.size) ?_
      intro v2 w3 ho3 hg3
      simp only [Nat.zero_add, List.nil_append] at ho3
      obtain ⟨a4, c4, rfl⟩ := own_numV ho3
      have hEX : E1 W w3 _ a4 el c4 es := (by first | exact HU2.out.app2 HX2.out hg3 ho3 | exact HU4.out.app2 HX4.out hg3 ho3)
      have HE : Hid _ := hEX
      clear hEX
      have HB5 : Hid (Below W.heap.size W w3) := HE.out.bel
      clear ho3 hg3
      refine hK.out _ _ ?_ (fun hHeld => ?_)
      · exact fun o => fb_cell (HSRC.out _ (by first | exact HB5.out)) o
      clear hK K
      try simp only [Act.put, List.getElem_toArray, List.getElem_cons_zero, List.getElem_cons_succ, List.setIfInBounds_toArray, List.set_cons_zero, List.set_cons_succ]
      refine wpAnyH_take (i := 6) (v := ?_) rfl (by kernel_rfl) (by kernel_rfl) (by kernel_rfl) (fun _ _ _ h => h) (Or.inl ⟨by rfl, ?_⟩) hHeld ?_
      rotate_left
      · intro wy hSw; (try dsimp only at hSw); go_simp; (try with_reducible rfl)
      try simp only [Act.put, List.getElem_toArray, List.getElem_cons_zero, List.getElem_cons_succ, List.setIfInBounds_toArray, List.set_cons_zero, List.set_cons_succ]
      refine wpAnyH_ready (rs := [8]) (by kernel_rfl) (by simp) ?_
      refine AllReadyH.cons rfl (fun K hK => ?_) AllReadyH.nil
      have cx := fun o => fb_cell HE.out.x o
      have fx := fun o => unfrozen_of_block0 HE.out.x o
      go_simp
      have HF : Hid (FO W _ _ none 0 0 a4 el c4 none 0 0 now [] es []) := (by first | exact fo_new (now := now) HD5.out.1 HD5.out.2 HO5.out | exact HE.out.start (now := now))
      refine hK.out _ _ ?_ (fun hHeld => ?_)
      · exact fun o => fb_cell (HSRC.out _ HF.out.bel) o
      clear hK K
      try simp only [Act.put, List.getElem_toArray, List.getElem_cons_zero, List.getElem_cons_succ, List.setIfInBounds_toArray, List.set_cons_zero, List.set_cons_succ]
      refine wpAnyH_done (by kernel_rfl) ?_ _
      go_wp2_with fail
      go_meet
      exact ⟨_, a4, c4, rfl, HF⟩
  case rest =>
  obtain ⟨X, ea2, ec2, rfl, HS⟩ := hcut
  have cs0 := fun o => fb_cell (HSRC.out _ HS.out.bel) o
  clear HU1 HU2 HU3 HU4 HX2 HX4 HY0
  go_wp2_with fail
  clear cs0
  go_loopw [4] (fun i wr => ∃ (k : Nat) (a : Option Addr) (c : Nat) (rs' : List RD), k ≤ rl ∧ i = .int .i64 k ∧ Hid (rs'.map RD.strip = (rs.take k).map RD.strip) ∧ Hid (FO W wr X a k c ea2 el ec2 none 0 0 now rs' es [])) (fun i _ => rl - (intOf i).toNat)
  case atStart => exact ⟨0, none, 0, [], by omega, rfl, show _ = _ by simp, HS.out⟩
  case round =>
    obtain ⟨k, a, c, rs', hk, rfl, hsm, hf⟩ := hrel
    clear HS
    have cs0 := fun o => fb_cell (HSRC.out _ hf.out.bel) o
    by_cases hlt : k < rl
    · obtain ⟨b, off, r, rfl, e1, g0, g1, g2, g3, hfit⟩ := rngsG_at keeps_fit HI.out.rs (HBB.out _ hf.out.bel) hlt
      have HZ : Hid (∀ Z ∈ fabBlks rs' [] ea2, Z < wr.heap.size) := fun Z hZ => (hf.out.own.lt hZ).2
      have HSM : Hid (∀ q : RD, q.strip = r.strip → (rs' ++ [q]).map RD.strip = (rs.take (k + 1)).map RD.strip) := fun q hq => by
        obtain ⟨hj, e2⟩ := List.getElem?_eq_some_iff.1 e1
        rw [List.take_succ_eq_append_getElem hj, e2, List.map_append, List.map_append, hsm.out]
        simp [hq]
      have HFT : Hid (r.fit wr) := hfit.out
      have hwz := hf.out.bel.size
      clear hfit e1 hsm
      obtain ⟨cap, first, ra2, rl2, rc2, ca2, cl2, cc2, recs, curs⟩ := r
      have hrl2 : rl2 ≤ 1048577 := Nat.le_succ_of_le HFT.out.rle
      have hcl2 : cl2 ≤ 1048577 := Nat.le_succ_of_le HFT.out.cle
      have c3 := fun o => fb_cell hf.out.x o
      have hki : (k : Int) < (rl : Int) := by omega
      simp only at g0 g1 g2 g3
      go_wp2
      go_region_law (first
        | (go_simp; go_at_call 109; refine (spec_copy (cap := cap) (first := first) recs curs _ (HFT.out.str.below ((Below.refl _ _).drew)) (HFT.out.cur.below ((Below.refl _ _).drew)) hrl2 hcl2).mono ?_; rintro x w2 ⟨a2, q2, c2, p2, rfl, ho2, hb2⟩; have hf3 : Hid (FO W w2 X a k c ea2 el ec2 none 0 0 now rs' es []) := hf.out.under (below_tr ((Below.refl _ _).drew) hb2); have HOR : Hid (RD.own ⟨cap, first, a2, rl2, q2, c2, cl2, p2, recs, curs⟩ w2 wr.heap.size) := RD.own.mono (r := ⟨cap, first, a2, rl2, q2, c2, cl2, p2, recs, curs⟩) ho2 (by simp); have c3 := fun o => fb_cell hf3.out.x o; have hlb := fb_lt hf3.out.x; clear hb2 ho2)
        | (refine step_append_own_any (by rfl) _ _ _ (by rfl) W.heap.size 92 i0 _ 4 64 Tryz.underlying28 hi0 hz0 hz1 hz2 (by rfl) (by omega) (.slice a k c) k _ (by rfl) (hf3.out.own.r.alloc _) (some ⟨w2.heap.size, 0, none⟩) 1 1 (RD.cells ⟨cap, first, a2, rl2, q2, c2, cl2, p2, recs, curs⟩) (by rfl) (by rfl) (fun e => by cases e) (fun ad e => by cases e; exact World.news_of_block (cs := #[.int .i64 cap, .int .i64 first, .slice a2 rl2 q2, .slice c2 cl2 p2]) (t := 92) (fr := (0, 0)) (heap_alloc_new _ _)) (by simp [RD.cells, Value.oneCell']) (by unfold maxLen; omega) (by omega) (by have := hf3.out.bel.size; simp; omega) ?_; intro v2 w3 ho3 hg3; obtain ⟨a3, c3', rfl⟩ := own_rgV ho3; have hst := FO.ringE (hf3.out.under (fbelow_new _ _)) (HOR.out.keep (tbelow_grown (fbelow_new _ _)) (fun _ _ e => by cases e)) HZ.out hwz ho3 hg3; have hc3 := fun o => fb_cell hst.1 o; have hf4 := fun o => unfrozen_of_block0 hst.1 o; have HST : Hid _ := hst.2; clear ho3 hg3 hst))
      all_goals
        go_wp2
        exact ⟨⟨k + 1, a3, c3', rs' ++ [RD.mk cap first a2 rl2 q2 c2 cl2 p2 recs curs], by omega, by go_num, HSM.out ⟨cap, first, a2, rl2, q2, c2, cl2, p2, recs, curs⟩ rfl, HST.out⟩, by simp [intOf]; omega⟩
    · obtain rfl : k = rl := by omega
      have HR1 : Hid (rs'.map RD.strip = rs.map RD.strip) := show _ = _ by have h := hsm.out; rwa [List.take_of_length_le (by rw [HLR.out]; exact Nat.le_refl _)] at h
      clear hsm
      go_wp2_with fail
      clear cs0
      go_loopw [5] (fun i wr => ∃ (j : Nat) (d : Option Addr) (e : Nat) (ts' : List TD), j ≤ tl ∧ i = .int .i64 j ∧ Hid (ts'.map TD.strip = (ts.take j).map TD.strip) ∧ Hid (FO W wr X a k c ea2 el ec2 d j e now rs' es ts')) (fun i _ => tl - (intOf i).toNat)
      case atStart => exact ⟨0, none, 0, [], by omega, rfl, show _ = _ by simp, hf.out⟩
      case round =>
        obtain ⟨j, d, e, ts', hj, rfl, htm, hg⟩ := hrel
        clear hf
        have cs0 := fun o => fb_cell (HSRC.out _ hg.out.bel) o
        by_cases hlt2 : j < tl
        · obtain ⟨b, off, t, rfl, e1, g0, g1, g2, g3, g4, g5, hfit⟩ := txsG_at keeps_tfit HI.out.ts (HBB.out _ hg.out.bel) hlt2
          have HZ : Hid (∀ Z ∈ fabBlks rs' ts' ea2, Z < wr.heap.size) := fun Z hZ => (hg.out.own.lt hZ).2
          have HSM : Hid (∀ q : TD, q.strip = t.strip → (ts' ++ [q]).map TD.strip = (ts.take (j + 1)).map TD.strip) := fun q hq => by
            obtain ⟨hjl, e2⟩ := List.getElem?_eq_some_iff.1 e1
            rw [List.take_succ_eq_append_getElem hjl, e2, List.map_append, List.map_append, htm.out]
            simp [hq]
          have HFT : Hid (TFit wr t) := hfit.out
          have hwz := hg.out.bel.size
          clear hfit e1 htm
          obtain ⟨p1, e1, s1, u1, ra2, rl2, rc2, la2, ll2, lc2, rs2, ls2⟩ := t
          have hrl2 : rl2 ≤ 1048577 := Nat.le_succ_of_le HFT.out.rle
          have hll2 : ll2 ≤ 1048577 := Nat.le_succ_of_le HFT.out.lle
          have c3 := fun o => fb_cell hg.out.x o
          have hji : (j : Int) < (tl : Int) := by omega
          simp only at g0 g1 g2 g3 g4 g5
          go_wp2
          go_region_law (first
            | (go_simp; go_at_call 110; refine (spec_tcopy (p := p1) (e := e1) (s := s1) (u := u1) (ra := ra2) (rl := rl2) (rc := rc2) (la := la2) (ll := ll2) (lc := lc2) rs2 ls2 _ (HFT.out.r.below ((Below.refl _ _).drew)) (HFT.out.l.below ((Below.refl _ _).drew)) hrl2 hll2).mono ?_; rintro x w2 ⟨a2, q2, b2, m2, rfl, ho2, hb2⟩; have hg3 : Hid (FO W w2 X a k c ea2 el ec2 d j e now rs' es ts') := hg.out.under (below_tr ((Below.refl _ _).drew) hb2); have HOR : Hid (TD.own ⟨p1, e1, s1, u1, a2, rl2, q2, b2, ll2, m2, rs2, ls2⟩ w2 wr.heap.size) := TD.own.mono (t := ⟨p1, e1, s1, u1, a2, rl2, q2, b2, ll2, m2, rs2, ls2⟩) ho2 (by simp); have c3 := fun o => fb_cell hg3.out.x o; have hlb := fb_lt hg3.out.x; clear hb2 ho2)
            | (refine step_append_own_any (by rfl) _ _ _ (by rfl) W.heap.size 67 t0 _ 6 80 Tryz.underlying29 ht0 hu0 hu1 hu2 (by rfl) (by omega) (.slice d j e) j _ (by rfl) (hg3.out.own.t.alloc _) (some ⟨w2.heap.size, 0, none⟩) 1 1 (TD.cells ⟨p1, e1, s1, u1, a2, rl2, q2, b2, ll2, m2, rs2, ls2⟩) (by rfl) (by rfl) (fun e => by cases e) (fun ad e => by cases e; exact World.news_of_block (cs := #[.int .i64 p1, .int .i64 e1, .int .i64 s1, .int .i64 u1, .slice a2 rl2 q2, .slice b2 ll2 m2]) (t := 67) (fr := (0, 0)) (heap_alloc_new _ _)) (by simp [TD.cells, Value.oneCell']) (by unfold maxLen; omega) (by omega) (by have := hg3.out.bel.size; simp; omega) ?_; intro v2 w3 ho3 hgr3; obtain ⟨a3, c3', rfl⟩ := own_txV ho3; have hst := FO.txnE (hg3.out.under (fbelow_new _ _)) (HOR.out.keep (tbelow_grown (fbelow_new _ _)) (fun _ _ e => by cases e)) HZ.out hwz ho3 hgr3; have hc3 := fun o => fb_cell hst.1 o; have hf4 := fun o => unfrozen_of_block0 hst.1 o; have HST : Hid _ := hst.2; clear ho3 hgr3 hst))
          all_goals
            go_wp2
            exact ⟨⟨j + 1, a3, c3', ts' ++ [TD.mk p1 e1 s1 u1 a2 rl2 q2 b2 ll2 m2 rs2 ls2], by omega, by go_num, HSM.out ⟨p1, e1, s1, u1, a2, rl2, q2, b2, ll2, m2, rs2, ls2⟩ rfl, HST.out⟩, by simp [intOf]; omega⟩
        · obtain rfl : j = tl := by omega
          have HR2 : Hid (ts'.map TD.strip = ts.map TD.strip) := show _ = _ by have h := htm.out; rwa [List.take_of_length_le (by rw [HLT.out]; exact Nat.le_refl _)] at h
          have c5 := fun o => fb_cell hg.out.x o
          have cy := fun o => fb_cell hg.out.y o
          have fy := fun o => unfrozen_of_block0 hg.out.y o
          have hWl := HBW.out.size
          clear htm
          go_wp2
          have hgy := grown_set4 wr W.heap.size 0 (.slice a k c) (.slice ea2 el ec2) (.slice d j e) (.int .i64 now)
          exact bodyPost_ret (v := fabVal a k c ea2 el ec2 d j e now) (by simp [results, Tryz.results46, go_sem, cy]) rfl ⟨⟨a, k, c, ea2, el, ec2, d, j, e, rs', es, ts'⟩, rfl, (hg.out.own.box hg.out.y fab_ne hgy).mono hWl, HR1.out, rfl, HR2.out, rfl, rfl, rfl, HBB.out _ (hg.out.bel.grown hgy hg.out.bel.size (fun k e => by cases e; exact Nat.le_refl _))⟩
end Go.Proofs.YtneiihikcnjglaaGreatDoor
/- A fabric that owns its memory, written: a transaction or a ring put in place of another, an epoch, one transaction more. -/
namespace Go.Proofs.YtneiihikcnjglaaGreatDoor
open Go.RowKit
set_option linter.unusedSimpArgs false
set_option linter.unusedVariables false

theorem flat_set_mem {α : Type} {f : α → List Nat} {l : List α} {k : Nat} {t : α} {x : Nat} (h : x ∈ (l.set k t).flatMap f) : x ∈ l.flatMap f ∨ x ∈ f t := by
  obtain ⟨y, hy, hx⟩ := List.mem_flatMap.1 h
  rcases List.mem_or_eq_of_mem_set hy with hy | rfl
  · exact .inl (List.mem_flatMap.2 ⟨y, hy, hx⟩)
  · exact .inr hx
theorem flat_set_nodup {α : Type} {f : α → List Nat} {l : List α} {k b : Nat} {t0 t : α} (h : (l.flatMap f).Nodup) (hk : l[k]? = some t0) (ht : (f t).Nodup) (hlt : ∀ x ∈ l.flatMap f, x < b) (hn : ∀ y ∈ f t, y ∈ f t0 ∨ b ≤ y) : ((l.set k t).flatMap f).Nodup := by
  induction l generalizing k with
  | nil => simp at hk
  | cons z l ih =>
    rw [List.flatMap_cons] at h hlt
    obtain ⟨n1, n2, n3⟩ := List.nodup_append.1 h
    cases k with
    | zero =>
      simp only [List.getElem?_cons_zero, Option.some.injEq] at hk
      subst hk
      rw [List.set_cons_zero, List.flatMap_cons]
      refine List.nodup_append.2 ⟨ht, n2, fun x hx y hy e => ?_⟩
      subst e
      rcases hn x hx with h1 | h1
      · exact n3 x h1 x hy rfl
      · have := hlt x (List.mem_append.2 (.inr hy)); omega
    | succ k =>
      rw [List.getElem?_cons_succ] at hk
      rw [List.set_cons_succ, List.flatMap_cons]
      refine List.nodup_append.2 ⟨n1, ih n2 hk fun x hx => hlt x (List.mem_append.2 (.inr hx)), fun x hx y hy e => ?_⟩
      subst e
      rcases flat_set_mem hy with h1 | h1
      · exact n3 x hx x h1 rfl
      · rcases hn x h1 with h2 | h2
        · exact n3 x hx x (List.mem_flatMap.2 ⟨t0, List.mem_of_getElem? hk, h2⟩) rfl
        · have := hlt x (List.mem_append.2 (.inl hx)); omega
theorem flat_set_new {α : Type} {f : α → List Nat} {l : List α} {k b : Nat} {t0 t : α} (hk : l[k]? = some t0) (hn : ∀ y ∈ f t, y ∈ f t0 ∨ b ≤ y) {x : Nat} (hx : x ∈ (l.set k t).flatMap f) : x ∈ l.flatMap f ∨ b ≤ x := by
  rcases flat_set_mem hx with h | h
  · exact .inl h
  · rcases hn x h with h | h
    · exact .inl (List.mem_flatMap.2 ⟨t0, List.mem_of_getElem? hk, h⟩)
    · exact .inr h
theorem nd_A {A A' B : List Nat} {b : Nat} (h : (A ++ B).Nodup) (ha : A'.Nodup) (hlt : ∀ x ∈ A ++ B, x < b) (hn : ∀ x ∈ A', x ∈ A ∨ b ≤ x) : (A' ++ B).Nodup := by
  obtain ⟨n1, n2, n3⟩ := List.nodup_append.1 h
  refine List.nodup_append.2 ⟨ha, n2, fun x hx y hy e => ?_⟩
  subst e
  rcases hn x hx with h1 | h1
  · exact n3 x h1 x hy rfl
  · have := hlt x (List.mem_append.2 (.inr hy)); omega
theorem nd_B {A B B' : List Nat} {b : Nat} (h : (A ++ B).Nodup) (ha : B'.Nodup) (hlt : ∀ x ∈ A ++ B, x < b) (hn : ∀ x ∈ B', x ∈ B ∨ b ≤ x) : (A ++ B').Nodup := by
  obtain ⟨n1, n2, n3⟩ := List.nodup_append.1 h
  refine List.nodup_append.2 ⟨n1, ha, fun x hx y hy e => ?_⟩
  subst e
  rcases hn x hy with h1 | h1
  · exact n3 x hx x h1 rfl
  · have := hlt x (List.mem_append.2 (.inl hx)); omega
theorem fab_setT {rs : List RD} {ts : List TD} {ea : Option Addr} {k b : Nat} {t0 t : TD} (h : (fabBlks rs ts ea).Nodup) (hk : ts[k]? = some t0) (ht : t.blks.Nodup) (hlt : ∀ x ∈ fabBlks rs ts ea, x < b) (hn : ∀ y ∈ t.blks, y ∈ t0.blks ∨ b ≤ y) : (fabBlks rs (ts.set k t) ea).Nodup := by
  have hlt2 : ∀ x ∈ ts.flatMap TD.blks ++ (blk? ea).toList, x < b := fun x hx => hlt x (List.mem_append.2 (.inr hx))
  have n2 := (List.nodup_append.1 h).2.1
  have n3 := (List.nodup_append.1 n2).1
  refine nd_B h (nd_A n2 (flat_set_nodup n3 hk ht (fun x hx => hlt2 x (List.mem_append.2 (.inl hx))) hn) hlt2 fun x hx => flat_set_new hk hn hx) hlt fun x hx => ?_
  rcases List.mem_append.1 hx with hx | hx
  · rcases flat_set_new hk hn hx with h1 | h1
    · exact .inl (List.mem_append.2 (.inl h1))
    · exact .inr h1
  · exact .inl (List.mem_append.2 (.inr hx))
section
variable {d : FD} {u v : World} {base tb k b1 : Nat}
def FD.setT (d : FD) (k : Nat) (t : TD) : FD := ⟨d.ra, d.rl, d.rc, d.ea, d.el, d.ec, d.ta, d.tl, d.tc, d.rs, d.es, d.ts.set k t⟩
/-- A transaction put in place of another, by whatever is stored in the row. -/
theorem FD.own.setT' {t0 t : TD} (h : d.own u base) (hta : d.ta = some ⟨tb, 0, none⟩) (hk : d.ts[k]? = some t0) (hrow : v.ownsRow base 67 6 (.slice d.ta d.tl d.tc) d.tl (tdCells (d.ts.set k t))) (hg : u.grownBy v (some tb)) (ht : t.own u base) (hn : ∀ y ∈ t.blks, y ∈ t0.blks ∨ b1 ≤ y) (hlt : ∀ x ∈ fabBlks d.rs d.ts d.ea, x < b1) : (d.setT k t).own v base := by
  have hb : blk? d.ta = some tb := by rw [hta]; rfl
  obtain ⟨C, hC⟩ := own_typed h.t hb
  refine ⟨own_keep h.r hg (.inr (own_ne_own h.t h.r (by decide) hb)), own_keep h.e hg (.inr (own_ne_own h.t h.e (by decide) hb)), hrow, fun r hr => (h.ri r hr).keep hg fun X hX e => ?_, fun q hq => ?_, fab_setT h.nd hk ht.nd hlt hn⟩
  · cases e; exact (h.ri r hr).not hC (by decide) (by decide) hX
  · have hq0 : q.own u base := by
      rcases List.mem_or_eq_of_mem_set hq with hq | rfl
      · exact h.ti q hq
      · exact ht
    exact hq0.keep hg fun X hX e => by cases e; exact hq0.not hC (by decide) hX
theorem FD.own.setT {t0 t : TD} (h : d.own u base) (hta : d.ta = some ⟨tb, 0, none⟩) (hk : d.ts[k]? = some t0) (ht : t.own u base) (hn : ∀ y ∈ t.blks, y ∈ t0.blks ∨ b1 ≤ y) (hlt : ∀ x ∈ fabBlks d.rs d.ts d.ea, x < b1) :
    (d.setT k t).own (setB6 u tb (k * 6) (.int .i64 t.p) (.int .i64 t.e) (.int .i64 t.s) (.int .i64 t.u) (.slice t.ra t.rl t.rc) (.slice t.la t.ll t.lc)) base := by
  have hkl := (List.getElem?_eq_some_iff.1 hk).1
  refine h.setT' hta hk ?_ (grown_setB6 u tb (k * 6) _ _ _ _ _ _) ht hn hlt
  rw [tdCells_set d.ts k hkl t]
  have h1 := h.t
  rw [hta] at h1 ⊢
  exact own_setB6 h1 k _ _ _ _ _ _
end
end Go.Proofs.YtneiihikcnjglaaGreatDoor
/- The specification's calls that answer a fabric: what they share. -/
namespace Go.Proofs.YtneiihikcnjglaaGreatDoor
open Go.RowKit Go.Maps
set_option linter.unusedSimpArgs false
set_option linter.unusedVariables false

theorem spec_oill (c : Int) (w : World) : Calls Tryz.prog 45 #[.int .i64 c] w fun e w' => e = .returned (illV c) ∧ Below w.heap.size w w' := by
  go_enter Tryz.func45, Tryz.ntmps45
  go_wp2
  exact bodyPost_ret (v := illV c) (by simp [results, Tryz.results45, go_sem]) rfl ⟨rfl, (Below.refl _ _).alloc (Nat.le_refl _) _⟩
theorem ansT_ill (w w' : World) (c : Int) : AnsT w w' (ftIll c) (.returned (illV c)) := ⟨⟨none, 0, 0, none, 0, 0, none, 0, 0, [], [], []⟩, rfl, ownFab_nil _ _, rfl, rfl, rfl⟩
theorem AnsT.drew {w u : World} {T : FT} {x : Ending} (h : AnsT w u T x ∧ Below w.heap.size w u) : AnsT w u.drew T x ∧ Below w.heap.size w u.drew := by
  obtain ⟨⟨d, hx, ho, hs⟩, hb⟩ := h
  exact ⟨⟨d, hx, FD.own.below ho ((Below.refl _ _).drew), hs⟩, hb.drew⟩
/-- While the specification works on its copy: the argument's box, the answer's, the copy's and the copy itself. -/
structure OB (w v : World) (src : Obj) (Z : Nat) (now : Int) (d : FD) : Prop where
  s : ∃ C, src = .cells C 31 (0, 0)
  b0 : v.heap[w.heap.size]? = some src
  y : v.heap[w.heap.size + 1]? = some (outO none 0 0 none 0 0 none 0 0 0 0 0)
  z : v.heap[Z]? = some (fabO d.ra d.rl d.rc d.ea d.el d.ec d.ta d.tl d.tc now)
  own : d.own v w.heap.size
  lz : w.heap.size + 1 < Z
  bel : Below w.heap.size w v
section
variable {w u v : World} {src : Obj} {Z k tb : Nat} {now : Int} {d : FD}
theorem OB.under (h : OB w u src Z now d) (hb : Below u.heap.size u v) : OB w v src Z now d :=
  ⟨h.s, (hb.block _ (fb_lt h.b0)).trans h.b0, (hb.block _ (fb_lt h.y)).trans h.y, (hb.block _ (fb_lt h.z)).trans h.z, h.own.below hb, h.lz, below_tr h.bel hb⟩
/-- A row of another type is written. -/
theorem OB.row {d' : FD} {C : Array Value} {T : TypeId} (h : OB w u src Z now d) (hg : u.grownBy v (some tb)) (hC : u.heap[tb]? = some (.cells C T (0, 0))) (hT : T ≠ 31 ∧ T ≠ 33) (hlo : w.heap.size ≤ tb) (hd : d'.own v w.heap.size) (he : d'.ra = d.ra ∧ d'.rl = d.rl ∧ d'.rc = d.rc ∧ d'.ea = d.ea ∧ d'.el = d.el ∧ d'.ec = d.ec ∧ d'.ta = d.ta ∧ d'.tl = d.tl ∧ d'.tc = d.tc) : OB w v src Z now d' := by
  obtain ⟨C0, e0⟩ := h.s
  have hne : ∀ {i : Nat} {D : Array Value} {S : TypeId}, u.heap[i]? = some (.cells D S (0, 0)) → T ≠ S → some i ≠ some tb := fun hi hs e => by
    cases e
    rw [hC] at hi
    cases hi
    exact hs rfl
  obtain ⟨e1, e2, e3, e4, e5, e6, e7, e8, e9⟩ := he
  refine ⟨h.s, (hg.block _ (fb_lt h.b0) (hne (e0 ▸ h.b0) hT.1)).trans h.b0, (hg.block _ (fb_lt h.y) (hne h.y hT.2)).trans h.y, ?_, hd, h.lz, h.bel.grown hg h.bel.size (fun i e => by cases e; exact hlo)⟩
  rw [e1, e2, e3, e4, e5, e6, e7, e8, e9]
  exact (hg.block _ (fb_lt h.z) (hne h.z hT.1)).trans h.z
theorem OB.putT {t0 t : TD} (h : OB w u src Z now d) (hb : Below u.heap.size u v) (hta : d.ta = some ⟨tb, 0, none⟩) (hk : d.ts[k]? = some t0) (ht : t.own v u.heap.size) :
    OB w (setB6 v tb (k * 6) (.int .i64 t.p) (.int .i64 t.e) (.int .i64 t.s) (.int .i64 t.u) (.slice t.ra t.rl t.rc) (.slice t.la t.ll t.lc)) src Z now (d.setT k t) := by
  have h1 := h.under hb
  have hbk : blk? d.ta = some tb := by rw [hta]; rfl
  obtain ⟨C, hC⟩ := own_typed h1.own.t hbk
  have hz := h.bel.size
  exact h1.row (grown_setB6 v tb (k * 6) _ _ _ _ _ _) hC (by decide) (own_blk_lt h1.own.t hbk).1 (h1.own.setT (b1 := u.heap.size) hta hk (ht.mono (by omega)) (fun y hy => .inr (ht.lt hy).1) (fun x hx => (OwnFab.lt h.own hx).2)) ⟨rfl, rfl, rfl, rfl, rfl, rfl, rfl, rfl, rfl⟩
/-- The answer is laid in its box. -/
theorem OB.fin {n c : Int} {T : FT} (h : OB w u src Z now d) (hs : d.same T) (hT : T.now = now ∧ T.n = n ∧ T.c = c) : AnsT w (set6 u (w.heap.size + 1) (.slice d.ra d.rl d.rc) (.slice d.ea d.el d.ec) (.slice d.ta d.tl d.tc) (.int .i64 now) (.int .i64 n) (.int .i64 c)) T (.returned (d.out now n c)) ∧
    Below w.heap.size w (set6 u (w.heap.size + 1) (.slice d.ra d.rl d.rc) (.slice d.ea d.el d.ec) (.slice d.ta d.tl d.tc) (.int .i64 now) (.int .i64 n) (.int .i64 c)) := by
  obtain ⟨rfl, rfl, rfl⟩ := hT
  exact ⟨⟨d, rfl, h.own.box h.y out_ne (grown_set6o u (w.heap.size + 1) _ _ _ _ _ _), hs⟩, below_set6o h.bel (by omega) _ _ _ _ _ _⟩
theorem ob_new {u0 : World} (h0 : Below w.heap.size w u0) (hs : ∃ C, src = .cells C 31 (0, 0)) (hb0 : u0.heap[w.heap.size]? = some src) (hy : u0.heap[w.heap.size + 1]? = some (outO none 0 0 none 0 0 none 0 0 0 0 0)) (hb : Below u0.heap.size u0 v) (ho : d.own v u0.heap.size) : OB w (v.alloc (fabO d.ra d.rl d.rc d.ea d.el d.ec d.ta d.tl d.tc now)) src v.heap.size now d := by
  have hz := h0.size
  have hlt := fb_lt hy
  have hv := hb.size
  exact ⟨hs, ((fbelow_new _ _).block _ (by omega)).trans ((hb.block _ (fb_lt hb0)).trans hb0), ((fbelow_new _ _).block _ (by omega)).trans ((hb.block _ hlt).trans hy), heap_alloc_new _ _, (FD.own.below ho (fbelow_new _ _)).mono (by omega), by omega, below_tr (below_tr h0 hb) (fbelow_new _ _)⟩
end
theorem OB.tcell {t0 : TD} {k tb : Nat} {w u : World} {src : Obj} {Z : Nat} {now : Int} {d : FD} (h : OB w u src Z now d) (hta : d.ta = some ⟨tb, 0, none⟩) (hk : d.ts[k]? = some t0) : k < d.tl ∧ u.cell? ⟨tb, k * 6, none⟩ = some (.int .i64 t0.p) ∧ u.cell? ⟨tb, k * 6 + 1, none⟩ = some (.int .i64 t0.e) ∧ u.cell? ⟨tb, k * 6 + 2, none⟩ = some (.int .i64 t0.s) ∧ u.cell? ⟨tb, k * 6 + 3, none⟩ = some (.int .i64 t0.u) ∧ u.cell? ⟨tb, k * 6 + 4, none⟩ = some (.slice t0.ra t0.rl t0.rc) ∧ u.cell? ⟨tb, k * 6 + 5, none⟩ = some (.slice t0.la t0.ll t0.lc) := by
  obtain ⟨hl, e⟩ := List.getElem?_eq_some_iff.1 hk
  have hlen : d.ts.length = d.tl := h.own.tfits
  have ho := h.own.t
  rw [hta] at ho
  have hc : ∀ j, j < 6 → u.cell? ⟨tb, k * 6 + j, none⟩ = t0.cells[j]? := fun j hj => by
    rw [ho.cellAt (k * 6 + j) (by omega), tdCells_at d.ts k j hl hj, e]
  exact ⟨by omega, by rw [← Nat.add_zero (k * 6)]; exact hc 0 (by omega), hc 1 (by omega), hc 2 (by omega), hc 3 (by omega), hc 4 (by omega), hc 5 (by omega)⟩
/-- The copy's transaction at k: of the make of the argument's. -/
theorem OB.txn {t : TD} {k : Nat} {w u v : World} {src : Obj} {Z : Nat} {now : Int} {d : FD} {ts : List TD} (h : OB w u src Z now d) (hs : d.ts.map TD.strip = ts.map TD.strip) (hk : ts[k]? = some t) (hf : TFit v t) : ∃ tb t0, d.ta = some ⟨tb, 0, none⟩ ∧ d.ts[k]? = some t0 ∧ t0.strip = t.strip ∧ TFit u t0 := by
  have e1 : (d.ts.map TD.strip)[k]? = (ts.map TD.strip)[k]? := by rw [hs]
  rw [List.getElem?_map, List.getElem?_map, hk] at e1
  obtain ⟨t0, ht0, hst⟩ := Option.map_eq_some_iff.1 e1
  obtain ⟨hl, e⟩ := List.getElem?_eq_some_iff.1 ht0
  have hlen : d.ts.length = d.tl := h.own.tfits
  obtain ⟨tb, htb⟩ := own_nform h.own.t (by omega)
  have ho := h.own.ti t0 (List.mem_of_getElem? ht0)
  have hst' := hst
  simp only [TD.strip, TD.mk.injEq] at hst'
  obtain ⟨k1, _, _, _, _, _, _, _, _, _, k2, k3⟩ := hst'
  have g1 := ho.1.1
  have g2 := ho.2.1.1
  simp only [List.length_map] at g1 g2
  have f1 := hf.r.nums.1
  have f2 := hf.l.nums.1
  have f3 := hf.rle
  have f4 := hf.lle
  rw [k2] at g1
  rw [k3] at g2
  exact ⟨tb, t0, htb, ht0, hst, own_tfit (t := t0) ho (by omega) (by omega) (by rw [k1]; exact hf.pw)⟩
theorem openOf_is {ts : List TD} {p : Int} {k : Nat} (h : openOf ts p = k + 1) : ∃ t, ts[k]? = some t ∧ t.s = 1 ∧ t.p = p := by
  unfold openOf at h
  cases hf : ts.findIdx? (fun t => t.p == p && t.s == 1) with
  | none => rw [hf] at h; cases h
  | some i =>
    rw [hf] at h
    simp only [Nat.add_right_cancel_iff] at h
    subst h
    obtain ⟨hl, hp, _⟩ := List.findIdx?_eq_some_iff_getElem.1 hf
    simp at hp
    exact ⟨ts[i], List.getElem?_eq_getElem hl, hp.2, hp.1⟩
theorem open_or {ts : List TD} {n : Int} : (openAt ts ts.length n = true ∧ ∃ k, openOf ts n = k + 1) ∨ (openAt ts ts.length n = false ∧ openOf ts n = 0) := by
  cases h : openAt ts ts.length n with
  | false => exact .inr ⟨rfl, openOf_not h⟩
  | true =>
    refine .inl ⟨rfl, ?_⟩
    obtain ⟨j, t, hj, ht, hs, hp⟩ := open_some h
    cases ho : openOf ts n with
    | succ k => exact ⟨k, rfl⟩
    | zero =>
      unfold openOf at ho
      cases hf : ts.findIdx? (fun t => t.p == n && t.s == 1) with
      | some i => rw [hf] at ho; cases ho
      | none =>
        rw [List.findIdx?_eq_none_iff] at hf
        have := hf t (List.mem_of_getElem? ht)
        simp [hs, hp] at this
theorem right_txnR {rs : List RD} {es : List Int} {ts : List TD} {now : Int} (h : fabRightB rs es ts now = true) {t : TD} (ht : t ∈ ts) : txnRightB t.p t.e t.s t.u t.rs t.ls = true := by
  have h1 := right_txns h
  simp only [txnsFitB, Bool.and_eq_true, List.all_eq_true] at h1
  have h2 := h1.1 t ht
  simp only [txnFitB, Bool.and_eq_true] at h2
  exact h2.1.1.1
theorem endT_open {t : TD} (hr : txnRightB t.p t.e t.s t.u t.rs t.ls = true) (hs : t.s = 1) {st : Int} (h : st = 2 ∨ st = 3) : endT t st = ⟨t.p, t.e, st, t.u, none, 0, 0, none, 0, 0, t.rs, t.rs⟩ := by
  have hc : endC t.p t.e t.s t.u t.rs t.ls st = true := by
    unfold endC
    rw [hr, hs]
    rcases h with rfl | rfl <;> rfl
  simp [endT, endS, endL, hc]
theorem spec_setT {d : FD} {k : Nat} {rs : List RD} {es : List Int} {ts E : List TD} {t : TD} {p1 e1 s1 u1 : Int} {ra2 : Option Addr} {rl2 rc2 : Nat} {la2 : Option Addr} {ll2 lc2 : Nat} {rs2 ls2 : List Int} {st : Int} {a4 b4 : Option Addr} {q4 m4 n4 : Nat}
    (h : d.rs.map RD.strip = rs.map RD.strip ∧ d.es = es ∧ d.ts.map TD.strip = ts.map TD.strip) (hE : E = ts.set k ⟨t.p, t.e, st, t.u, none, 0, 0, none, 0, 0, t.rs, t.rs⟩) (hs : TD.strip ⟨p1, e1, s1, u1, ra2, rl2, rc2, la2, ll2, lc2, rs2, ls2⟩ = t.strip) :
    (d.setT k ⟨p1, e1, st, u1, a4, rl2, q4, b4, n4, m4, rs2, rs2⟩).rs.map RD.strip = rs.map RD.strip ∧ (d.setT k ⟨p1, e1, st, u1, a4, rl2, q4, b4, n4, m4, rs2, rs2⟩).es = es ∧ (d.setT k ⟨p1, e1, st, u1, a4, rl2, q4, b4, n4, m4, rs2, rs2⟩).ts.map TD.strip = E.map TD.strip := by
  simp only [TD.strip, TD.mk.injEq] at hs
  obtain ⟨k0, k1, _, k2, _, _, _, _, _, _, k3, _⟩ := hs
  refine ⟨h.1, h.2.1, ?_⟩
  rw [hE]
  show (d.ts.set k _).map TD.strip = _
  rw [List.map_set, List.map_set, h.2.2, k0, k1, k2, k3]
  rfl
end Go.Proofs.YtneiihikcnjglaaGreatDoor
/- What the calls that answer a fabric answer, as values. -/
namespace Go.Proofs.YtneiihikcnjglaaGreatDoor
open Go.RowKit Go.Maps

/-- A transaction at that time: taken back where its own is over. -/
def overT (now : Int) (t : TD) : TD := if t.s = 1 ∧ t.u ≤ now then endT t 3 else t
def tickR (rs : List RD) (es : List Int) (ts : List TD) (now by_ : Int) : Except Int FV :=
  if ¬ (0 ≤ by_ ∧ by_ ≤ 1000000 - now) then .error 1 else .ok ⟨rs, es, ts.map (overT (now + by_)), now + by_, ((ts.countP fun t => decide (t.s = 1 ∧ t.u ≤ now + by_)) : Nat)⟩
theorem right_now {rs : List RD} {es : List Int} {ts : List TD} {now : Int} (h : fabRightB rs es ts now = true) : 0 ≤ now ∧ now ≤ 1000000 := by
  simp only [fabRightB, Bool.and_eq_true] at h
  exact of_decide_eq_true (show decide (0 ≤ now ∧ now ≤ 1000000) = true from h.1.1.1.2)
end Go.Proofs.YtneiihikcnjglaaGreatDoor
/- The specification's End, and the code of who begins, sends or ends. -/
namespace Go.Proofs.YtneiihikcnjglaaGreatDoor
open Go.RowKit Go.Maps
attribute [local go_sem ↓] Go.wp_at_zero Go.wp_at_succ
set_option linter.unusedSimpArgs false
set_option linter.unusedVariables false

end Go.Proofs.YtneiihikcnjglaaGreatDoor
/- The specification's Tick. -/
namespace Go.Proofs.YtneiihikcnjglaaGreatDoor
open Go.RowKit Go.Maps
attribute [local go_sem ↓] Go.wp_at_zero Go.wp_at_succ
set_option linter.unusedSimpArgs false
set_option linter.unusedVariables false

/-- The first j looked at. -/
def overTo (ts : List TD) (T : Int) (j : Nat) : List TD := (ts.take j).map (overT T) ++ ts.drop j
def overC (ts : List TD) (T : Int) (j : Nat) : Nat := (ts.take j).countP fun t => decide (t.s = 1 ∧ t.u ≤ T)
section
variable {ts : List TD} {T : Int} {j : Nat} {t : TD}
theorem overTo_all (h : ts.length ≤ j) : overTo ts T j = ts.map (overT T) := by
  unfold overTo
  rw [List.take_of_length_le h, List.drop_of_length_le h, List.append_nil]
theorem overTo_len : (overTo ts T j).length = ts.length := by
  unfold overTo
  rw [List.length_append, List.length_map, List.length_take, List.length_drop]
  omega
theorem overTo_at (h : ts[j]? = some t) : (overTo ts T j)[j]? = some t := by
  have hl := (List.getElem?_eq_some_iff.1 h).1
  unfold overTo
  rw [List.getElem?_append_right (by rw [List.length_map, List.length_take]; omega), List.length_map, List.length_take, List.getElem?_drop]
  rw [show j + (j - min j ts.length) = j by omega]
  exact h
theorem overTo_succ (h : ts[j]? = some t) : overTo ts T (j + 1) = (overTo ts T j).set j (overT T t) := by
  obtain ⟨hl, e⟩ := List.getElem?_eq_some_iff.1 h
  unfold overTo
  rw [List.take_succ_eq_append_getElem hl, e, List.map_append, List.append_assoc, List.set_append_right _ _ (by rw [List.length_map, List.length_take]; omega), List.length_map, List.length_take, show j - min j ts.length = 0 by omega, List.drop_eq_getElem_cons hl, e]
  rfl
theorem overTo_same (h : ts[j]? = some t) (hn : ¬ (t.s = 1 ∧ t.u ≤ T)) : overTo ts T (j + 1) = overTo ts T j := by
  rw [overTo_succ h, show overT T t = t from if_neg hn]
  have h1 := overTo_at (T := T) h
  obtain ⟨hl, e⟩ := List.getElem?_eq_some_iff.1 h1
  rw [← e]
  exact List.set_getElem_self hl
theorem overC_yes (h : ts[j]? = some t) (hn : t.s = 1 ∧ t.u ≤ T) : overC ts T (j + 1) = overC ts T j + 1 := by
  obtain ⟨hl, e⟩ := List.getElem?_eq_some_iff.1 h
  unfold overC
  rw [List.take_succ_eq_append_getElem hl, e, List.countP_append]
  simp [hn]
theorem overC_no (h : ts[j]? = some t) (hn : ¬ (t.s = 1 ∧ t.u ≤ T)) : overC ts T (j + 1) = overC ts T j := by
  obtain ⟨hl, e⟩ := List.getElem?_eq_some_iff.1 h
  unfold overC
  rw [List.take_succ_eq_append_getElem hl, e, List.countP_append]
  simp
  exact fun h1 => by have := fun h2 => hn ⟨h1, h2⟩; omega
theorem overC_all (h : ts.length ≤ j) : overC ts T j = ts.countP fun t => decide (t.s = 1 ∧ t.u ≤ T) := by
  unfold overC
  rw [List.take_of_length_le h]
theorem overC_le : overC ts T j ≤ j := Nat.le_trans List.countP_le_length (by rw [List.length_take]; omega)
end
set_option maxRecDepth 100000 in
set_option maxHeartbeats 4000000 in
theorem spec_Tick (ra : Option Addr) (rl rc : Nat) (ea : Option Addr) (el ec : Nat) (ta : Option Addr) (tl tc : Nat) (now n : Int) (rs : List RD) (es : List Int) (ts : List TD) (w : World)
    (hi : FIn w ra rl ea el ta tl rs es ts) (hen : ea = none → el = 0 ∧ ec = 0) :
    Calls Tryz.prog 29 #[fabVal ra rl rc ea el ec ta tl tc now, .int .i64 n] w fun x w' => AnsT w w' (ftOf (fabRightB rs es ts now) (tickR rs es ts now n)) x ∧ Below w.heap.size w w' := by
  have HI : Hid (FIn w ra rl ea el ta tl rs es ts) := hi
  have HEN : Hid (ea = none → el = 0 ∧ ec = 0) := hen
  have HS0 : Hid (T2 w ((w.alloc (fabO ra rl rc ea el ec ta tl tc now)).alloc (outO none 0 0 none 0 0 none 0 0 0 0 0)) (fabO ra rl rc ea el ec ta tl tc now) (outO none 0 0 none 0 0 none 0 0 0 0 0)) := t2_start ..
  have hle : w.heap.size ≤ w.heap.size + 1 := by omega
  have hrl := hi.rle
  have htl := hi.tle
  have HLT : Hid (ts.length = tl) := hi.ts.1
  clear hi hen
  obtain ⟨T, hT⟩ : ∃ T, ftOf (fabRightB rs es ts now) (tickR rs es ts now n) = T := ⟨_, rfl⟩
  have HT : Hid (ftOf (fabRightB rs es ts now) (tickR rs es ts now n) = T) := hT
  rw [hT]
  clear hT
  go_enter Tryz.func29, Tryz.ntmps29
  go_wp2_with fail
  refine (spec_fabricRight ra rl rc ea el ec ta tl tc now rs es ts _ (HI.out.below HS0.out.below)).mono ?_
  rintro x v1 ⟨rfl, hb1⟩
  have HS1 : Hid (T2 w v1 (fabO ra rl rc ea el ec ta tl tc now) (outO none 0 0 none 0 0 none 0 0 0 0 0)) := HS0.out.under hb1
  clear hb1 HS0
  have c0 := fun o => HS1.out.cell0 o
  have cy := fun o => HS1.out.cell1 o
  have fy := fun o => HS1.out.free1 o
  have HILL : Hid (∀ c : Int, T = ftIll c → ∀ (v2 : World) (v0 v1 v2' v3 v4 v5 : Value), T2 w v2 (fabO ra rl rc ea el ec ta tl tc now) (outO none 0 0 none 0 0 none 0 0 0 0 0) → AnsT w (set6 v2 (w.heap.size + 1) v0 v1 v2' v3 v4 v5) T (.returned (illV c)) ∧ Below w.heap.size w (set6 v2 (w.heap.size + 1) v0 v1 v2' v3 v4 v5)) := fun c hc v2 _ _ _ _ _ _ h2 => ⟨by rw [hc]; exact ansT_ill _ _ c, below_set6o h2.below hle _ _ _ _ _ _⟩
  cases hR : fabRightB rs es ts now with
  | false =>
    have HTI : Hid (T = ftIll 1) := show _ = _ by rw [← HT.out, hR]; rfl
    go_wp2_with fail
    refine (spec_oill 1 _).mono ?_
    rintro x v2 ⟨rfl, hb2⟩
    have HS2 : Hid (T2 w v2 (fabO ra rl rc ea el ec ta tl tc now) (outO none 0 0 none 0 0 none 0 0 0 0 0)) := HS1.out.under hb2
    clear hb2 HS1 c0 cy fy
    have cy := fun o => HS2.out.cell1 o
    have fy := fun o => HS2.out.free1 o
    go_wp2
    exact bodyPost_ret (v := illV 1) (by simp [results, Tryz.results29, go_sem, cy]) rfl (HILL.out 1 HTI.out _ _ _ _ _ _ _ HS2.out)
  | true =>
  have HR : Hid (fabRightB rs es ts now = true) := hR
  have hnow := right_now hR
  have hel : el = 4 := by have h1 := (right_sizes hR).2.2.1; have := HI.out.es.1; omega
  have ht12 : tl ≤ 12 := by have h1 := (right_sizes hR).2.2.2; have := HLT.out; omega
  subst hel
  have hwn : IntKind.i64.wrap (1000000 - now) = 1000000 - now := twrap_in _ (by omega) (by omega)
  clear hR
  go_wp2_with fail
  refine (spec_is _ _ _ _).mono ?_
  rintro x v2 ⟨rfl, hv2⟩
  rw [hv2]
  clear hv2 v2
  by_cases hg : 0 ≤ n ∧ n ≤ 1000000 - now
  case neg =>
    have hd : decide (0 ≤ n ∧ n ≤ 1000000 - now) = false := decide_eq_false hg
    have HTI : Hid (T = ftIll 1) := show _ = _ by rw [← HT.out, HR.out]; unfold tickR; rw [if_pos hg]; rfl
    clear hg
    rw [hd]
    clear hd
    go_wp2_with fail
    refine (spec_oill 1 _).mono ?_
    rintro x v2 ⟨rfl, hb2⟩
    have HS2 : Hid (T2 w v2 (fabO ra rl rc ea 4 ec ta tl tc now) (outO none 0 0 none 0 0 none 0 0 0 0 0)) := HS1.out.under hb2
    clear hb2 HS1 c0 cy fy
    have cy := fun o => HS2.out.cell1 o
    have fy := fun o => HS2.out.free1 o
    go_wp2
    exact bodyPost_ret (v := illV 1) (by simp [results, Tryz.results29, go_sem, cy]) rfl (HILL.out 1 HTI.out _ _ _ _ _ _ _ HS2.out)
  case pos =>
  have hd : decide (0 ≤ n ∧ n ≤ 1000000 - now) = true := decide_eq_true hg
  have hwa : IntKind.i64.wrap (now + n) = now + n := twrap_in _ (by omega) (by omega)
  obtain ⟨S, hS⟩ : ∃ S, now + n = S := ⟨_, rfl⟩
  have HTO : Hid (T = ⟨rs, es, ts.map (overT S), S, ((ts.countP fun t => decide (t.s = 1 ∧ t.u ≤ S)) : Nat), 0⟩) := show _ = _ by rw [← HT.out, HR.out]; unfold tickR; rw [if_neg (fun h => h hg), hS]; rfl
  rw [hd]
  clear hg hd HILL
  rw [hS] at hwa
  go_wp2_with fail
  refine (spec_fcopy ra rl rc ea 4 ec ta tl tc now rs es ts _ (HI.out.below HS1.out.below) HEN.out).mono ?_
  rintro x v3 ⟨d, rfl, hod, hdr, hde, hdt, hdrl, hdel, hdtl, hb3⟩
  have K3 : Hid (OB w (v3.alloc (fabO d.ra d.rl d.rc d.ea d.el d.ec d.ta d.tl d.tc S)) (fabO ra rl rc ea 4 ec ta tl tc now) v3.heap.size S d) := ob_new HS1.out.below ⟨_, rfl⟩ HS1.out.b0 HS1.out.b1 hb3 hod
  have HDS : Hid (d.rs.map RD.strip = rs.map RD.strip ∧ d.es = es ∧ d.ts.map TD.strip = (overTo ts S 0).map TD.strip) := ⟨hdr, hde, hdt⟩
  have K30 : Hid (OB w (v3.alloc (fabO d.ra d.rl d.rc d.ea d.el d.ec d.ta d.tl d.tc now)) (fabO ra rl rc ea 4 ec ta tl tc now) v3.heap.size now d) := ob_new HS1.out.below ⟨_, rfl⟩ HS1.out.b0 HS1.out.b1 hb3 hod
  clear hod hdr hde hdt hdrl hdel hdtl hb3 HS1 c0 cy fy
  obtain ⟨Z, hZ⟩ : ∃ Z, v3.heap.size = Z := ⟨_, rfl⟩
  rw [hZ] at K3 K30
  have cz := fun o => fb_cell K30.out.z o
  have c0 := fun o => fb_cell K30.out.b0 o
  have fz := fun o => unfrozen_of_block0 K30.out.z o
  go_wp2
  clear hZ cz c0 fz K30
  go_loopw [6, 7] (fun n i wr => ∃ (j : Nat) (d : FD), j ≤ tl ∧ i = .int .i64 j ∧ n = .int .i64 ((overC ts S j : Nat) : Int) ∧ Hid (OB w wr (fabO ra rl rc ea 4 ec ta tl tc now) Z S d) ∧ Hid (d.rs.map RD.strip = rs.map RD.strip ∧ d.es = es ∧ d.ts.map TD.strip = (overTo ts S j).map TD.strip)) (fun _ i _ => tl - (intOf i).toNat)
  case atStart => exact ⟨0, d, by omega, rfl, rfl, K3.out, HDS.out⟩
  case round =>
    clear K3 HDS
    obtain ⟨j, d, hj, rfl, rfl, K, HD⟩ := hrel
    have hdl : d.tl = tl := by
      have h1 := congrArg List.length HD.out.2.2
      rw [List.length_map, List.length_map, overTo_len, HLT.out] at h1
      have h2 : d.ts.length = d.tl := K.out.own.tfits
      omega
    obtain ⟨X, hX⟩ : ∃ X, overC ts S j = X := ⟨_, rfl⟩
    have HX : Hid (overC ts S j = X) := hX
    have hXj : X ≤ j := by rw [← hX]; exact overC_le
    rw [hX]
    clear hX
    by_cases hlt : j < tl
    case neg =>
      obtain rfl : j = tl := by omega
      have cz := fun o => fb_cell K.out.z o
      have cy := fun o => fb_cell K.out.y o
      have fy := fun o => unfrozen_of_block0 K.out.y o
      have HFIN : Hid _ := K.out.fin (n := (X : Int)) (c := 0) (T := T) ⟨by rw [HTO.out]; exact HD.out.1, by rw [HTO.out]; exact HD.out.2.1, by rw [HTO.out, HD.out.2.2, overTo_all (Nat.le_of_eq HLT.out)]⟩ ⟨by rw [HTO.out], by rw [HTO.out, ← HX.out, overC_all (Nat.le_of_eq HLT.out)], by rw [HTO.out]⟩
      have hdi : ¬ ((j : Int) < (d.tl : Int)) := by omega
      clear hdl
      go_wp2
      exact bodyPost_ret (v := outV d.ra d.rl d.rc d.ea d.el d.ec d.ta d.tl d.tc S (X : Int) 0) (by simp [results, Tryz.results29, go_sem, cy]) rfl HFIN.out
    case pos =>
    obtain ⟨t, htk⟩ : ∃ t, ts[j]? = some t := ⟨ts[j]'(by rw [HLT.out]; exact hlt), List.getElem?_eq_getElem _⟩
    have HTK : Hid (ts[j]? = some t) := htk
    have HFT0 : Hid (TFit w t) := (HI.out.ts.2 j (List.getElem?_eq_some_iff.1 htk).1).elim fun b h => h.elim fun off h => by
      have h2 := h.2.2.2.2.2.2.2
      rwa [(List.getElem?_eq_some_iff.1 htk).2] at h2
    obtain ⟨tb, t0, hta, ht0, hst, htf⟩ := K.out.txn HD.out.2.2 (overTo_at htk) HFT0.out
    have HFT : Hid (TFit wr t0) := htf
    have HT0 : Hid (d.ts[j]? = some t0) := ht0
    have HTA : Hid (d.ta = some ⟨tb, 0, none⟩) := hta
    have HST : Hid (t0.strip = t.strip) := hst
    have hs0 : t0.s = t.s := by have h := congrArg TD.s hst; exact h
    have hu0 : t0.u = t.u := by have h := congrArg TD.u hst; exact h
    obtain ⟨hkl, h0, h1, h2, h3, h4, h5⟩ := K.out.tcell hta ht0
    have hji : (j : Int) < (d.tl : Int) := by omega
    have hlti : (j : Int) < (tl : Int) := by omega
    clear hdl
    have cz := fun o => fb_cell K.out.z o
    have HH2 : Hid (wr.cell? ⟨tb, j * 6 + 2, none⟩ = some (.int .i64 t.s)) := hs0 ▸ h2
    have HH3 : Hid (wr.cell? ⟨tb, j * 6 + 3, none⟩ = some (.int .i64 t.u)) := hu0 ▸ h3
    have HCZ : Hid (∀ o, wr.cell? ⟨Z, o, none⟩ = (#[.slice d.ra d.rl d.rc, .slice d.ea d.el d.ec, .slice (some ⟨tb, 0, none⟩) d.tl d.tc, .int .i64 S] : Array Value)[o]?) := fun o => by rw [cz o, hta]
    clear htk hta ht0 hst htf hkl h0 h1 h2 h3 h4 h5 hs0 hu0
    rw [HTA.out] at cz
    go_upto_region 9 with fail
    clear cz
    go_cut [51] (fun b v => ∃ G : Bool, b = .bool G ∧ Hid (G = decide (t.s = 1 ∧ t.u ≤ S)) ∧ Hid (v = wr.drew))
    case first =>
      by_cases hs : t.s = 1
      case pos =>
        have hs1 : (t.s == 1) = true := by rw [beq_iff_eq]; exact hs
        have HS : Hid (t.s = 1) := hs
        clear hs
        refine wp_region_held_drew (S := (fun x => (∀ o, x.cell? ⟨Z, o, none⟩ = (#[.slice d.ra d.rl d.rc, .slice d.ea d.el d.ec, .slice (some ⟨tb, 0, none⟩) d.tl d.tc, .int .i64 S] : Array Value)[o]?) ∧ x.cell? ⟨tb, j * 6 + 2, none⟩ = some (.int .i64 t.s) ∧ x.cell? ⟨tb, j * 6 + 3, none⟩ = some (.int .i64 t.u))) (by kernel_rfl) (⟨HCZ.out, HH2.out, HH3.out⟩) (fun hHeld => ?_)
        refine wpAnyH_take (i := 0) (v := ?_) rfl (by kernel_rfl) (by kernel_rfl) (by kernel_rfl) (fun _ _ _ h => h) (Or.inl ⟨by rfl, ?_⟩) hHeld ?_
        rotate_left
        · intro wy hSw; (try dsimp only at hSw); go_simp; (try with_reducible rfl)
        try simp only [Act.put, List.getElem_toArray, List.getElem_cons_zero, List.getElem_cons_succ, List.setIfInBounds_toArray, List.set_cons_zero, List.set_cons_succ]
        refine wpAnyH_take (i := 1) (v := ?_) rfl (by kernel_rfl) (by kernel_rfl) (by kernel_rfl) (fun _ _ _ h => h) (Or.inl ⟨by rfl, ?_⟩) hHeld ?_
        rotate_left
        · intro wy hSw; (try dsimp only at hSw); go_simp; (try with_reducible rfl)
        try simp only [Act.put, List.getElem_toArray, List.getElem_cons_zero, List.getElem_cons_succ, List.setIfInBounds_toArray, List.set_cons_zero, List.set_cons_succ]
        refine wpAnyH_take (i := 2) (v := ?_) rfl (by kernel_rfl) (by kernel_rfl) (by kernel_rfl) (fun _ _ _ h => h) (Or.inl ⟨by rfl, ?_⟩) hHeld ?_
        rotate_left
        · intro wy hSw; (try dsimp only at hSw); go_simp; (try with_reducible rfl)
        try simp only [Act.put, List.getElem_toArray, List.getElem_cons_zero, List.getElem_cons_succ, List.setIfInBounds_toArray, List.set_cons_zero, List.set_cons_succ]
        refine wpAnyH_take (i := 3) (v := ?_) rfl (by kernel_rfl) (by kernel_rfl) (by kernel_rfl) (fun _ _ _ h => h) (Or.inl ⟨by rfl, ?_⟩) hHeld ?_
        rotate_left
        · intro wy hSw; (try dsimp only at hSw); go_simp; (try with_reducible rfl)
        try simp only [Act.put, List.getElem_toArray, List.getElem_cons_zero, List.getElem_cons_succ, List.setIfInBounds_toArray, List.set_cons_zero, List.set_cons_succ]
        refine wpAnyH_take (i := 4) (v := ?_) rfl (by kernel_rfl) (by kernel_rfl) (by kernel_rfl) (fun _ _ _ h => h) (Or.inl ⟨by rfl, ?_⟩) hHeld ?_
        rotate_left
        · intro wy hSw; (try dsimp only at hSw); go_simp; (try with_reducible rfl)
        try simp only [Act.put, List.getElem_toArray, List.getElem_cons_zero, List.getElem_cons_succ, List.setIfInBounds_toArray, List.set_cons_zero, List.set_cons_succ]
        refine wpAnyH_take (i := 5) (v := ?_) rfl (by kernel_rfl) (by kernel_rfl) (by kernel_rfl) (fun _ _ _ h => h) (Or.inl ⟨by rfl, ?_⟩) hHeld ?_
        rotate_left
        · intro wy hSw; (try dsimp only at hSw); go_simp; (try with_reducible rfl)
        try simp only [Act.put, List.getElem_toArray, List.getElem_cons_zero, List.getElem_cons_succ, List.setIfInBounds_toArray, List.set_cons_zero, List.set_cons_succ]
        refine wpAnyH_take (i := 6) (v := ?_) rfl (by kernel_rfl) (by kernel_rfl) (by kernel_rfl) (fun _ _ _ h => h) (Or.inl ⟨by rfl, ?_⟩) hHeld ?_
        rotate_left
        · intro wy hSw; (try dsimp only at hSw); go_simp; (try with_reducible rfl)
        try simp only [Act.put, List.getElem_toArray, List.getElem_cons_zero, List.getElem_cons_succ, List.setIfInBounds_toArray, List.set_cons_zero, List.set_cons_succ]
        refine wpAnyH_take (i := 7) (v := ?_) rfl (by kernel_rfl) (by kernel_rfl) (by kernel_rfl) (fun _ _ _ h => h) (Or.inl ⟨by rfl, ?_⟩) hHeld ?_
        rotate_left
        · intro wy hSw; (try dsimp only at hSw); go_simp; (try with_reducible rfl)
        try simp only [Act.put, List.getElem_toArray, List.getElem_cons_zero, List.getElem_cons_succ, List.setIfInBounds_toArray, List.set_cons_zero, List.set_cons_succ]
        refine wpAnyH_take (i := 8) (v := ?_) rfl (by kernel_rfl) (by kernel_rfl) (by kernel_rfl) (fun _ _ _ h => h) (Or.inl ⟨by rfl, ?_⟩) hHeld ?_
        rotate_left
        · intro wy hSw; (try dsimp only at hSw); go_simp; (try with_reducible rfl)
        try simp only [Act.put, List.getElem_toArray, List.getElem_cons_zero, List.getElem_cons_succ, List.setIfInBounds_toArray, List.set_cons_zero, List.set_cons_succ]
        refine wpAnyH_take (i := 9) (v := ?_) rfl (by kernel_rfl) (by kernel_rfl) (by kernel_rfl) (fun _ _ _ h => h) (Or.inl ⟨by rfl, ?_⟩) hHeld ?_
        rotate_left
        · intro wy hSw; (try dsimp only at hSw); go_simp; (try with_reducible rfl)
        try simp only [Act.put, List.getElem_toArray, List.getElem_cons_zero, List.getElem_cons_succ, List.setIfInBounds_toArray, List.set_cons_zero, List.set_cons_succ]
        refine wpAnyH_take (i := 10) (v := ?_) rfl (by kernel_rfl) (by kernel_rfl) (by kernel_rfl) (fun _ _ _ h => h) (Or.inl ⟨by rfl, ?_⟩) hHeld ?_
        rotate_left
        · intro wy hSw; (try dsimp only at hSw); go_simp; (try with_reducible rfl)
        try simp only [Act.put, List.getElem_toArray, List.getElem_cons_zero, List.getElem_cons_succ, List.setIfInBounds_toArray, List.set_cons_zero, List.set_cons_succ]
        refine wpAnyH_take (i := 11) (v := ?_) rfl (by kernel_rfl) (by kernel_rfl) (by kernel_rfl) (fun _ _ _ h => h) (Or.inl ⟨by rfl, ?_⟩) hHeld ?_
        rotate_left
        · intro wy hSw; (try dsimp only at hSw); go_simp; (try with_reducible rfl)
        try simp only [Act.put, List.getElem_toArray, List.getElem_cons_zero, List.getElem_cons_succ, List.setIfInBounds_toArray, List.set_cons_zero, List.set_cons_succ]
        refine wpAnyH_take (i := 12) (v := ?_) rfl (by kernel_rfl) (by kernel_rfl) (by kernel_rfl) (fun _ _ _ h => h) (Or.inl ⟨by rfl, ?_⟩) hHeld ?_
        rotate_left
        · intro wy hSw; (try dsimp only at hSw); go_simp; (try with_reducible rfl)
        try simp only [Act.put, List.getElem_toArray, List.getElem_cons_zero, List.getElem_cons_succ, List.setIfInBounds_toArray, List.set_cons_zero, List.set_cons_succ]
        refine wpAnyH_take (i := 13) (v := ?_) rfl (by kernel_rfl) (by kernel_rfl) (by kernel_rfl) (fun _ _ _ h => h) (Or.inl ⟨by rfl, ?_⟩) hHeld ?_
        rotate_left
        · intro wy hSw; (try dsimp only at hSw); go_simp; (try with_reducible rfl)
        try simp only [Act.put, List.getElem_toArray, List.getElem_cons_zero, List.getElem_cons_succ, List.setIfInBounds_toArray, List.set_cons_zero, List.set_cons_succ]
        refine wpAnyH_take (i := 14) (v := ?_) rfl (by kernel_rfl) (by kernel_rfl) (by kernel_rfl) (fun _ _ _ h => h) (Or.inl ⟨by rfl, ?_⟩) hHeld ?_
        rotate_left
        · intro wy hSw; (try dsimp only at hSw); go_simp; (try with_reducible rfl)
        try simp only [Act.put, List.getElem_toArray, List.getElem_cons_zero, List.getElem_cons_succ, List.setIfInBounds_toArray, List.set_cons_zero, List.set_cons_succ]
        refine wpAnyH_take (i := 15) (v := ?_) rfl (by kernel_rfl) (by kernel_rfl) (by kernel_rfl) (fun _ _ _ h => h) (Or.inl ⟨by rfl, ?_⟩) hHeld ?_
        rotate_left
        · intro wy hSw; (try dsimp only at hSw); go_simp; (try with_reducible rfl)
        try simp only [Act.put, List.getElem_toArray, List.getElem_cons_zero, List.getElem_cons_succ, List.setIfInBounds_toArray, List.set_cons_zero, List.set_cons_succ]
        refine wpAnyH_take (i := 16) (v := ?_) rfl (by kernel_rfl) (by kernel_rfl) (by kernel_rfl) (fun _ _ _ h => h) (Or.inl ⟨by rfl, ?_⟩) hHeld ?_
        rotate_left
        · intro wy hSw; (try dsimp only at hSw); go_simp; (try with_reducible rfl)
        try simp only [Act.put, List.getElem_toArray, List.getElem_cons_zero, List.getElem_cons_succ, List.setIfInBounds_toArray, List.set_cons_zero, List.set_cons_succ]
        refine wpAnyH_take (i := 17) (v := ?_) rfl (by kernel_rfl) (by kernel_rfl) (by kernel_rfl) (fun _ _ _ h => h) (Or.inl ⟨by rfl, ?_⟩) hHeld ?_
        rotate_left
        · intro wy hSw; (try dsimp only at hSw); go_simp; (try with_reducible rfl)
        try simp only [Act.put, List.getElem_toArray, List.getElem_cons_zero, List.getElem_cons_succ, List.setIfInBounds_toArray, List.set_cons_zero, List.set_cons_succ]
        refine wpAnyH_done (by kernel_rfl) ?_ _
        go_wp2_with fail
        go_meet
        exact ⟨decide (t.u ≤ S), rfl, (show _ = _ from decide_eq_decide.2 ⟨fun h => ⟨HS.out, h⟩, fun h => h.2⟩), rfl⟩
      case neg =>
        have hs1 : (t.s == 1) = false := by rw [beq_eq_false_iff_ne]; exact hs
        have HS : Hid (¬ t.s = 1) := hs
        clear hs
        refine wp_region_held_drew (S := (fun x => (∀ o, x.cell? ⟨Z, o, none⟩ = (#[.slice d.ra d.rl d.rc, .slice d.ea d.el d.ec, .slice (some ⟨tb, 0, none⟩) d.tl d.tc, .int .i64 S] : Array Value)[o]?) ∧ x.cell? ⟨tb, j * 6 + 2, none⟩ = some (.int .i64 t.s) ∧ x.cell? ⟨tb, j * 6 + 3, none⟩ = some (.int .i64 t.u))) (by kernel_rfl) (⟨HCZ.out, HH2.out, HH3.out⟩) (fun hHeld => ?_)
        refine wpAnyH_take (i := 0) (v := ?_) rfl (by kernel_rfl) (by kernel_rfl) (by kernel_rfl) (fun _ _ _ h => h) (Or.inl ⟨by rfl, ?_⟩) hHeld ?_
        rotate_left
        · intro wy hSw; (try dsimp only at hSw); go_simp; (try with_reducible rfl)
        try simp only [Act.put, List.getElem_toArray, List.getElem_cons_zero, List.getElem_cons_succ, List.setIfInBounds_toArray, List.set_cons_zero, List.set_cons_succ]
        refine wpAnyH_take (i := 1) (v := ?_) rfl (by kernel_rfl) (by kernel_rfl) (by kernel_rfl) (fun _ _ _ h => h) (Or.inl ⟨by rfl, ?_⟩) hHeld ?_
        rotate_left
        · intro wy hSw; (try dsimp only at hSw); go_simp; (try with_reducible rfl)
        try simp only [Act.put, List.getElem_toArray, List.getElem_cons_zero, List.getElem_cons_succ, List.setIfInBounds_toArray, List.set_cons_zero, List.set_cons_succ]
        refine wpAnyH_take (i := 2) (v := ?_) rfl (by kernel_rfl) (by kernel_rfl) (by kernel_rfl) (fun _ _ _ h => h) (Or.inl ⟨by rfl, ?_⟩) hHeld ?_
        rotate_left
        · intro wy hSw; (try dsimp only at hSw); go_simp; (try with_reducible rfl)
        try simp only [Act.put, List.getElem_toArray, List.getElem_cons_zero, List.getElem_cons_succ, List.setIfInBounds_toArray, List.set_cons_zero, List.set_cons_succ]
        refine wpAnyH_take (i := 3) (v := ?_) rfl (by kernel_rfl) (by kernel_rfl) (by kernel_rfl) (fun _ _ _ h => h) (Or.inl ⟨by rfl, ?_⟩) hHeld ?_
        rotate_left
        · intro wy hSw; (try dsimp only at hSw); go_simp; (try with_reducible rfl)
        try simp only [Act.put, List.getElem_toArray, List.getElem_cons_zero, List.getElem_cons_succ, List.setIfInBounds_toArray, List.set_cons_zero, List.set_cons_succ]
        refine wpAnyH_take (i := 4) (v := ?_) rfl (by kernel_rfl) (by kernel_rfl) (by kernel_rfl) (fun _ _ _ h => h) (Or.inl ⟨by rfl, ?_⟩) hHeld ?_
        rotate_left
        · intro wy hSw; (try dsimp only at hSw); go_simp; (try with_reducible rfl)
        try simp only [Act.put, List.getElem_toArray, List.getElem_cons_zero, List.getElem_cons_succ, List.setIfInBounds_toArray, List.set_cons_zero, List.set_cons_succ]
        refine wpAnyH_take (i := 5) (v := ?_) rfl (by kernel_rfl) (by kernel_rfl) (by kernel_rfl) (fun _ _ _ h => h) (Or.inl ⟨by rfl, ?_⟩) hHeld ?_
        rotate_left
        · intro wy hSw; (try dsimp only at hSw); go_simp; (try with_reducible rfl)
        try simp only [Act.put, List.getElem_toArray, List.getElem_cons_zero, List.getElem_cons_succ, List.setIfInBounds_toArray, List.set_cons_zero, List.set_cons_succ]
        refine wpAnyH_take (i := 6) (v := ?_) rfl (by kernel_rfl) (by kernel_rfl) (by kernel_rfl) (fun _ _ _ h => h) (Or.inl ⟨by rfl, ?_⟩) hHeld ?_
        rotate_left
        · intro wy hSw; (try dsimp only at hSw); go_simp; (try with_reducible rfl)
        try simp only [Act.put, List.getElem_toArray, List.getElem_cons_zero, List.getElem_cons_succ, List.setIfInBounds_toArray, List.set_cons_zero, List.set_cons_succ]
        refine wpAnyH_take (i := 7) (v := ?_) rfl (by kernel_rfl) (by kernel_rfl) (by kernel_rfl) (fun _ _ _ h => h) (Or.inl ⟨by rfl, ?_⟩) hHeld ?_
        rotate_left
        · intro wy hSw; (try dsimp only at hSw); go_simp; (try with_reducible rfl)
        try simp only [Act.put, List.getElem_toArray, List.getElem_cons_zero, List.getElem_cons_succ, List.setIfInBounds_toArray, List.set_cons_zero, List.set_cons_succ]
        refine wpAnyH_take (i := 8) (v := undef) rfl (by kernel_rfl) (by kernel_rfl) (by kernel_rfl) (fun _ _ _ h => h) (Or.inr ⟨by rfl, rfl⟩) hHeld ?_
        try simp only [Act.put, List.getElem_toArray, List.getElem_cons_zero, List.getElem_cons_succ, List.setIfInBounds_toArray, List.set_cons_zero, List.set_cons_succ]
        refine wpAnyH_take (i := 9) (v := undef) rfl (by kernel_rfl) (by kernel_rfl) (by kernel_rfl) (fun _ _ _ h => h) (Or.inr ⟨by rfl, rfl⟩) hHeld ?_
        try simp only [Act.put, List.getElem_toArray, List.getElem_cons_zero, List.getElem_cons_succ, List.setIfInBounds_toArray, List.set_cons_zero, List.set_cons_succ]
        refine wpAnyH_take (i := 10) (v := undef) rfl (by kernel_rfl) (by kernel_rfl) (by kernel_rfl) (fun _ _ _ h => h) (Or.inr ⟨by rfl, rfl⟩) hHeld ?_
        try simp only [Act.put, List.getElem_toArray, List.getElem_cons_zero, List.getElem_cons_succ, List.setIfInBounds_toArray, List.set_cons_zero, List.set_cons_succ]
        refine wpAnyH_take (i := 11) (v := undef) rfl (by kernel_rfl) (by kernel_rfl) (by kernel_rfl) (fun _ _ _ h => h) (Or.inr ⟨by rfl, rfl⟩) hHeld ?_
        try simp only [Act.put, List.getElem_toArray, List.getElem_cons_zero, List.getElem_cons_succ, List.setIfInBounds_toArray, List.set_cons_zero, List.set_cons_succ]
        refine wpAnyH_take (i := 12) (v := undef) rfl (by kernel_rfl) (by kernel_rfl) (by kernel_rfl) (fun _ _ _ h => h) (Or.inr ⟨by rfl, rfl⟩) hHeld ?_
        try simp only [Act.put, List.getElem_toArray, List.getElem_cons_zero, List.getElem_cons_succ, List.setIfInBounds_toArray, List.set_cons_zero, List.set_cons_succ]
        refine wpAnyH_take (i := 13) (v := undef) rfl (by kernel_rfl) (by kernel_rfl) (by kernel_rfl) (fun _ _ _ h => h) (Or.inr ⟨by rfl, rfl⟩) hHeld ?_
        try simp only [Act.put, List.getElem_toArray, List.getElem_cons_zero, List.getElem_cons_succ, List.setIfInBounds_toArray, List.set_cons_zero, List.set_cons_succ]
        refine wpAnyH_take (i := 14) (v := undef) rfl (by kernel_rfl) (by kernel_rfl) (by kernel_rfl) (fun _ _ _ h => h) (Or.inr ⟨by rfl, rfl⟩) hHeld ?_
        try simp only [Act.put, List.getElem_toArray, List.getElem_cons_zero, List.getElem_cons_succ, List.setIfInBounds_toArray, List.set_cons_zero, List.set_cons_succ]
        refine wpAnyH_take (i := 15) (v := undef) rfl (by kernel_rfl) (by kernel_rfl) (by kernel_rfl) (fun _ _ _ h => h) (Or.inr ⟨by rfl, rfl⟩) hHeld ?_
        try simp only [Act.put, List.getElem_toArray, List.getElem_cons_zero, List.getElem_cons_succ, List.setIfInBounds_toArray, List.set_cons_zero, List.set_cons_succ]
        refine wpAnyH_take (i := 16) (v := undef) rfl (by kernel_rfl) (by kernel_rfl) (by kernel_rfl) (fun _ _ _ h => h) (Or.inr ⟨by rfl, rfl⟩) hHeld ?_
        try simp only [Act.put, List.getElem_toArray, List.getElem_cons_zero, List.getElem_cons_succ, List.setIfInBounds_toArray, List.set_cons_zero, List.set_cons_succ]
        refine wpAnyH_take (i := 17) (v := ?_) rfl (by kernel_rfl) (by kernel_rfl) (by kernel_rfl) (fun _ _ _ h => h) (Or.inl ⟨by rfl, ?_⟩) hHeld ?_
        rotate_left
        · intro wy hSw; (try dsimp only at hSw); go_simp; (try with_reducible rfl)
        try simp only [Act.put, List.getElem_toArray, List.getElem_cons_zero, List.getElem_cons_succ, List.setIfInBounds_toArray, List.set_cons_zero, List.set_cons_succ]
        refine wpAnyH_done (by kernel_rfl) ?_ _
        go_wp2_with fail
        go_meet
        exact ⟨false, rfl, (show _ = _ from (decide_eq_false fun h => HS.out h.1).symm), rfl⟩
    case rest =>
    obtain ⟨G, rfl, HG, HW⟩ := hcut
    have hw := HW.out
    subst hw
    clear HW HH2 HH3 HCZ
    have K1 : Hid (OB w wr.drew (fabO ra rl rc ea 4 ec ta tl tc now) Z S d) := K.out.under ((Below.refl _ _).drew)
    have hwj : IntKind.i64.wrap ((j : Int) + 1) = (j : Int) + 1 := twrap_in _ (by omega) (by omega)
    cases G with
    | false =>
      have hno : ¬ (t.s = 1 ∧ t.u ≤ S) := of_decide_eq_false HG.out.symm
      have HC1 : Hid (overC ts S (j + 1) = X) := (overC_no HTK.out hno).trans HX.out
      have HD1 : Hid (d.rs.map RD.strip = rs.map RD.strip ∧ d.es = es ∧ d.ts.map TD.strip = (overTo ts S (j + 1)).map TD.strip) := by rw [overTo_same HTK.out hno]; exact HD
      clear hno
      go_wp2
      exact ⟨⟨j + 1, d, by omega, by go_num, by rw [HC1.out], K1.out, HD1.out⟩, by simp [intOf]; omega⟩
    | true =>
      have hyes : t.s = 1 ∧ t.u ≤ S := of_decide_eq_true HG.out.symm
      have HC1 : Hid (overC ts S (j + 1) = X + 1) := show _ = _ by rw [overC_yes HTK.out hyes, HX.out]
      have HE1 : Hid (overTo ts S (j + 1) = (overTo ts S j).set j ⟨t.p, t.e, 3, t.u, none, 0, 0, none, 0, 0, t.rs, t.rs⟩) := show _ = _ by
        rw [overTo_succ HTK.out, show overT S t = endT t 3 from if_pos hyes, endT_open (right_txnR HR.out (List.mem_of_getElem? HTK.out)) hyes.1 (.inr rfl)]
      have hwx : IntKind.i64.wrap ((X : Int) + 1) = (X : Int) + 1 := twrap_in _ (by omega) (by omega)
      have HF1 : Hid (TFit wr.drew t0) := HFT.out.below ((Below.refl _ _).drew)
      clear hyes HFT
      have cz := fun o => fb_cell K1.out.z o
      rw [HTA.out] at cz
      obtain ⟨hkl, h0, h1, h2, h3, h4, h5⟩ := K1.out.tcell HTA.out HT0.out
      obtain ⟨U, hU⟩ : ∃ U, wr.drew = U := ⟨_, rfl⟩
      rw [hU] at K1 HF1 ⊢
      simp only [hU] at cz h0 h1 h2 h3 h4 h5
      clear hU hkl K wr
      obtain ⟨p1, e1, s1, u1, ra2, rl2, rc2, la2, ll2, lc2, rs2, ls2⟩ := t0
      have hrl2 : rl2 ≤ 1048577 := Nat.le_succ_of_le HF1.out.rle
      have hll2 : ll2 ≤ 1048577 := Nat.le_succ_of_le HF1.out.lle
      simp only at h0 h1 h2 h3 h4 h5
      have hfz := fun j => (show World.ownsRow _ _ _ _ (.slice (some ⟨tb, 0, none⟩) d.tl d.tc) _ _ from by have h := K1.out.own.t; rw [HTA.out] at h; exact h).frozenAt j
      go_upto_region 10 with fail
      go_cut [] (fun wd => ∃ d' : FD, Hid (OB w wd (fabO ra rl rc ea 4 ec ta tl tc now) Z S d') ∧ Hid (d'.rs.map RD.strip = rs.map RD.strip ∧ d'.es = es ∧ d'.ts.map TD.strip = (overTo ts S (j + 1)).map TD.strip))
      case first =>
        go_region_with (first | (go_at_call 48; refine (spec_tend (p := p1) (e := e1) (s := s1) (u := u1) (ra := ra2) (rl := rl2) (rc := rc2) (la := la2) (ll := ll2) (lc := lc2) 3 rs2 ls2 _ (HF1.out.r.below ((Below.refl _ _).drew)) (HF1.out.l.below ((Below.refl _ _).drew)) hrl2 hll2).mono ?_; rintro x v4 ⟨a4, q4, b4, m4, rfl, ho4, hb4⟩; have hb4' := below_tr ((Below.refl _ _).drew) hb4; have K4 : Hid (OB w v4 (fabO ra rl rc ea 4 ec ta tl tc now) Z S d) := K1.out.under hb4'; have HO4 : Hid (TD.own ⟨p1, e1, 3, u1, a4, rl2, q4, b4, rl2, m4, rs2, rs2⟩ v4 U.heap.size) := ho4; have HB4 : Hid (Below U.heap.size U v4) := hb4'; have cz4 := fun o => fb_cell K4.out.z o; rw [HTA.out] at cz4; obtain ⟨hkl, k0, k1, k2, k3, k4, k5⟩ := K4.out.tcell HTA.out HT0.out; have fz4 := fun j => (show World.ownsRow _ _ _ _ (.slice (some ⟨tb, 0, none⟩) d.tl d.tc) _ _ from (by have h := K4.out.own.t; rw [HTA.out] at h; exact h)).frozenAt j; simp only at k0 k1 k2 k3 k4 k5; clear hb4 hb4' ho4 hkl))
        all_goals (go_wp2_with fail; have HQ := K1.out.putT HB4.out HTA.out HT0.out HO4.out; have HQ2 := spec_setT (E := overTo ts S (j + 1)) (st := 3) (a4 := a4) (b4 := b4) (q4 := q4) (m4 := m4) (n4 := rl2) HD.out HE1.out HST.out; go_meet; exact ⟨_, HQ, HQ2⟩)
      case rest =>
      obtain ⟨d', K5, HD5⟩ := hcut
      clear K1 HD HF1 HTA HT0 HST HE1 cz h0 h1 h2 h3 h4 h5 hfz
      go_wp2
      exact ⟨⟨j + 1, d', by omega, by go_num, by rw [HC1.out]; rfl, K5.out, HD5.out⟩, by simp [intOf]; omega⟩
end Go.Proofs.YtneiihikcnjglaaGreatDoor
/- The program's transactions at work: one that ends. -/
namespace Go.Proofs.YtneiihikcnjglaaGreatDoor
open Go.RowKit Go.Maps
attribute [local go_sem ↓] Go.wp_at_zero Go.wp_at_succ
set_option linter.unusedSimpArgs false
set_option linter.unusedVariables false

theorem below_setB6 {lo : Nat} {w v : World} (h : Below lo w v) {b : Nat} (hb : lo ≤ b) (o : Nat) (v0 v1 v2 v3 v4 v5 : Value) : Below lo w (setB6 v b o v0 v1 v2 v3 v4 v5) :=
  (((((h.setCell (p := ⟨b, o, none⟩) hb _).setCell (p := ⟨b, o + 1, none⟩) hb _).setCell (p := ⟨b, o + 2, none⟩) hb _).setCell (p := ⟨b, o + 3, none⟩) hb _).setCell (p := ⟨b, o + 4, none⟩) hb _).setCell (p := ⟨b, o + 5, none⟩) hb _
theorem off_new {w : World} {base e size n c : Nat} {a : Option Addr} {xs : List Value} (h : w.ownsRow base e size (.slice a n c) n xs) {X : Nat} (hX : X < base) : Off X a := fun x e he => by
  have := own_blk_lt h (X := x.block) (by rw [e]; rfl)
  omega
/-- The transaction put in place: it fits, and lies elsewhere. -/
theorem end_put {lo B M tb : Nat} {tl tc : Nat} {ra : Option Addr} {rl rc : Nat} {ea : Option Addr} {el ec : Nat} {now began puts : Int} {ts : List TD} {rs : List RD} {es : List Int} {m : Nat} {D : DataW Unit} {w v : World} {k : Nat} {t' : TD} {base : Nat}
    (h0 : WK lo w B M (some ⟨tb, 0, none⟩) tl tc ra rl rc ea el ec now began puts ts rs es m D) (h : WK lo v B M (some ⟨tb, 0, none⟩) tl tc ra rl rc ea el ec now began puts ts rs es m D) (hk : k < ts.length) (hb : Below w.heap.size w v) (hbase : w.heap.size ≤ base)
    (ho : OwnTxn v base t'.ra t'.rl t'.rc t'.la t'.ll t'.lc (numCells t'.rs) (numCells t'.ls)) (hn : t'.rl ≤ 1048576) (hm : t'.ll ≤ 1048576) (hp : -9223372036854775808 ≤ t'.p ∧ t'.p ≤ 9223372036854775807) :
    Below lo w (setB6 v tb (k * 6) (.int .i64 t'.p) (.int .i64 t'.e) (.int .i64 t'.s) (.int .i64 t'.u) (.slice t'.ra t'.rl t'.rc) (.slice t'.la t'.ll t'.lc)) ∧
      WK lo (setB6 v tb (k * 6) (.int .i64 t'.p) (.int .i64 t'.e) (.int .i64 t'.s) (.int .i64 t'.u) (.slice t'.ra t'.rl t'.rc) (.slice t'.la t'.ll t'.lc)) B M (some ⟨tb, 0, none⟩) tl tc ra rl rc ea el ec now began puts (ts.set k t') rs es m D := by
  have h1 := h0.mine_lt (X := tb) (.inr (.inr (.inl rfl)))
  exact ⟨below_setB6 (hb.mono (Nat.le_of_lt (Nat.lt_of_le_of_lt h1.1 h1.2))) h1.1 _ _ _ _ _ _ _, h.setT k hk t' (own_tfit ho hn hm hp) (fun X hX => by
    have h2 := (h0.mine_lt hX).2
    exact ⟨off_new ho.1 (by omega), off_new ho.2.1 (by omega)⟩)⟩
set_option maxRecDepth 100000 in
set_option maxHeartbeats 4000000 in
theorem impl_end_txn {lo B M : Nat} {ta : Option Addr} {tl tc : Nat} {ra : Option Addr} {rl rc : Nat} {ea : Option Addr} {el ec : Nat} {now began puts : Int} {ts : List TD} {rs : List RD} {es : List Int} {m : Nat} {D : DataW Unit} (k : Nat) (t : TD) (st : Int) (w : World)
    (h : WK lo w B M ta tl tc ra rl rc ea el ec now began puts ts rs es m D) (hk : ts[k]? = some t) (htl : tl ≤ 1048576) (hm : t.rl ≤ 1048576) :
    Calls Tryz.prog 120 #[.pointer (some ⟨B, 0, none⟩), .int .i64 k, .int .i64 st] w fun x w' => x = .returned (.tuple #[]) ∧ Below lo w w' ∧ ∃ t' : TD, t'.strip = endT t st ∧ WK lo w' B M ta tl tc ra rl rc ea el ec now began puts (ts.set k t') rs es m (D.del (.int .i64 t.p)) := by
  have hkl : k < tl := by rw [← h.txs.1]; exact (List.getElem?_eq_some_iff.1 hk).1
  obtain ⟨tb, rfl⟩ := own_nform h.t (by omega)
  have HK : Hid (WK lo w B M (some ⟨tb, 0, none⟩) tl tc ra rl rc ea el ec now began puts ts rs es m D) := h
  have HFT : Hid (TFit w t) := h.ft t (List.mem_of_getElem? hk)
  have HKT : Hid (ts[k]? = some t) := hk
  have hki : (k : Int) < (tl : Int) := by omega
  have HKL : Hid (k < ts.length) := (List.getElem?_eq_some_iff.1 hk).1
  clear h hk
  obtain ⟨p, e, s, u, ra', rl', rc', la', ll', lc', rs', ls'⟩ := t
  have HN1 : Hid (rs'.length ≤ 1048576) := by have h1 := HFT.out.r.nums.1; have h2 := HFT.out.rle; show rs'.length ≤ _; simp only at h1 h2; omega
  have HN2 : Hid ((endL p e s u rs' ls' st).length ≤ 1048576) := by
    have h1 := HFT.out.l.nums.1
    have h2 := HFT.out.lle
    simp only at h1 h2
    show (endL p e s u rs' ls' st).length ≤ _
    unfold endL
    split
    · exact HN1.out
    · omega
  go_enter Tryz.func120, Tryz.ntmps120
  go_upto_region 0 with fail
  have HD : Hid (WK lo w.drew B M (some ⟨tb, 0, none⟩) tl tc ra rl rc ea el ec now began puts ts rs es m D) := HK.out.under ((Below.refl _ _).drew)
  have cb := fun o => fb_cell HD.out.b o
  obtain ⟨b, off, t1, e0, e1, g0, g1, g2, g3, g4, g5, _⟩ := txsG_at keeps_tfit HD.out.txs (Below.refl _ _) hkl
  cases e0
  obtain rfl := Option.some.inj (HKT.out.symm.trans e1)
  simp only [Nat.zero_add] at g0 g1 g2 g3 g4 g5
  clear e1
  go_cut [] (fun wc => ∃ t' : TD, Below lo w wc ∧ t'.strip = endT ⟨p, e, s, u, ra', rl', rc', la', ll', lc', rs', ls'⟩ st ∧ Hid (WK lo wc B M (some ⟨tb, 0, none⟩) tl tc ra rl rc ea el ec now began puts (ts.set k t') rs es m D))
  case first =>
    go_region_with (first | (go_at_call 173; refine (impl_txnEnd (p := p) (e := e) (s := s) (u := u) st rs' ls' _ ⟨HFT.out.r.below ((Below.refl _ _).drew), HFT.out.l.below ((Below.refl _ _).drew), HFT.out.rle, HFT.out.lle, HFT.out.rcm, HFT.out.lcm⟩).mono ?_; rintro x v2 ⟨a2, q2, b2, m2, rfl, ho2, hb2⟩; have HK2 : Hid (WK lo v2 B M (some ⟨tb, 0, none⟩) tl tc ra rl rc ea el ec now began puts ts rs es m D) := HD.out.under hb2; have HO2 : Hid _ := ho2; have HB2 : Hid (Below w.heap.size w v2) := below_tr ((Below.refl _ _).drew) hb2; have cb2 := fun o => fb_cell HK2.out.b o; obtain ⟨_, _, _, e9, _, k0, k1, k2, k3, k4, k5, _⟩ := txsG_at keeps_tfit HK2.out.txs (Below.refl _ _) hkl; cases e9; simp only [Nat.zero_add] at k0 k1 k2 k3 k4 k5; have fz := fun j => HK2.out.t.frozenAt j; clear ho2 hb2))
    all_goals (go_wp2_with fail; go_meet; exact ⟨TD.mk p e (endS p e s u rs' ls' st) u a2 rs'.length q2 b2 (endL p e s u rs' ls' st).length m2 rs' (endL p e s u rs' ls' st), (end_put (t' := TD.mk p e (endS p e s u rs' ls' st) u a2 rs'.length q2 b2 (endL p e s u rs' ls' st).length m2 rs' (endL p e s u rs' ls' st)) HK.out HK2.out HKL.out HB2.out (Nat.le_refl _) HO2.out HN1.out HN2.out HFT.out.pw).1, rfl, (end_put (t' := TD.mk p e (endS p e s u rs' ls' st) u a2 rs'.length q2 b2 (endL p e s u rs' ls' st).length m2 rs' (endL p e s u rs' ls' st)) HK.out HK2.out HKL.out HB2.out (Nat.le_refl _) HO2.out HN1.out HN2.out HFT.out.pw).2⟩)
  case rest =>
  obtain ⟨t', hbl, hst, hG⟩ := hcut
  have HBL : Hid (Below lo w wc) := hbl
  have HST : Hid (t'.strip = endT ⟨p, e, s, u, ra', rl', rc', la', ll', lc', rs', ls'⟩ st) := hst
  have hpt : t'.p = p := by have h := congrArg TD.p hst; exact h
  clear hbl hst cb g0 g1 g2 g3 g4 g5 HD
  have cb := fun o => fb_cell hG.out.b o
  obtain ⟨_, _, t2, e9, e8, k0, k1, k2, k3, k4, k5, _⟩ := txsG_at keeps_tfit hG.out.txs (Below.refl _ _) hkl
  cases e9
  have ht2 : t' = t2 := by
    rw [List.getElem?_set_self HKL.out] at e8
    exact Option.some.inj e8
  subst ht2
  simp only [Nat.zero_add] at k0 k1 k2 k3 k4 k5
  rw [hpt] at k0
  obtain ⟨w1, hrun, hm1, hg1⟩ := hG.out.m.drew.drop mapKey Tryz.underlying133 (keyOf_int_mk Tryz.underlying2 (wf64 HFT.out.pw)) 0
  go_wp2
  go_region
  go_wp2
  go_end0
  have hlo : lo ≤ wc.drew.heap.size := Nat.le_of_lt (Nat.lt_of_le_of_lt hG.out.lb (fb_lt hG.out.b))
  exact ⟨rfl, HBL.out.drew.grown hg1.grown hlo (fun k e => by cases e; exact hG.out.lm), t', HST.out, (hG.out.under ((Below.refl _ _).drew)).setM hm1 hg1.grown⟩
end Go.Proofs.YtneiihikcnjglaaGreatDoor
