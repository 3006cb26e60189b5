import Derived.Test.YtdepaeajfldfbaaGreatDoorSpecFab3
import Derived.Test.YtdepaeajfldfbaaGreatDoorLawRingAsk
import Derived.Test.YtdepaeajfldfbaaGreatDoorLawTxn1
import Derived.Test.YtdepaeajfldfbaaGreatDoorLawRing5
import Derived.Test.YtdepaeajfldfbaaGreatDoorRingLeave
/- The laws' own helpers on fabrics: how large they are. -/
namespace Go.Proofs.YtdepaeajfldfbaaGreatDoor
open Go.RowKit

/-- A ring that is not too large. -/
def RD.small (r : RD) : Prop := r.rl ≤ 1048576 ∧ r.cl ≤ 1048576 ∧ ∀ s ∈ r.recs, s.size ≤ 1048576
def TD.small (t : TD) : Prop := t.rl ≤ 1048576 ∧ t.ll ≤ 1048576
abbrev RD.lin (r : RD) (w : World) : Prop := LIn w r.ra r.rl r.ca r.cl r.recs r.curs
/-- What the laws ask of a transaction; its producer is a number of 64 bits. -/
structure LT (w : World) (t : TD) : Prop where
  l : LTIn w t.ra t.rl t.la t.ll t.rs t.ls
  pw : -9223372036854775808 ≤ t.p ∧ t.p ≤ 9223372036854775807
abbrev TD.lin (t : TD) (w : World) : Prop := LT w t
theorem LIn.below {w w' : World} {ra : Option Addr} {rl : Nat} {ca : Option Addr} {cl : Nat} {recs : List ByteArray} {curs : List (Int × Int)} (h : LIn w ra rl ca cl recs curs) (hb : Below w.heap.size w w') : LIn w' ra rl ca cl recs curs := ⟨strs_below h.strs hb, curs_below h.curs hb, h.sz, h.rle, h.cle⟩
theorem keeps_lin : Keeps (fun w (r : RD) => r.lin w) := fun _ _ _ hb h => h.below hb
theorem keeps_tlin : Keeps (fun w (t : TD) => t.lin w) := fun _ _ _ hb h => ⟨h.l.below hb, h.pw⟩
abbrev LRngs (w : World) (a : Option Addr) (len : Nat) (l : List RD) : Prop := RngsG (fun w r => r.lin w) w a len l
abbrev LTxs (w : World) (a : Option Addr) (len : Nat) (l : List TD) : Prop := TxsG (fun w t => t.lin w) w a len l
/-- What is left of L: nothing, or a number; then Q holds. -/
def LeftIs (L : Nat) (Q : Prop) (z : Int) : Prop := z = -1 ∨ ∃ x : Nat, z = (x : Int) ∧ x ≤ L ∧ Q
theorem szLeft_is {L n s : Nat} {Q : Prop} (h : n + s ≤ L → Q) : LeftIs L Q (szLeft L n s) := by
  unfold szLeft LeftIs
  by_cases hh : n + s ≤ L
  · rw [if_pos hh]; exact .inr ⟨_, rfl, by omega, h hh⟩
  · rw [if_neg hh]; exact .inl rfl
set_option maxHeartbeats 1000000 in
theorem law_szRingL (r : RD) (L : Nat) (w : World) (hi : r.lin w) (hL : L ≤ 1048576) :
    Calls Tryz.prog 67 #[r.v, .int .i64 L] w fun e w' => ∃ z : Int, e = .returned (.int .i64 z) ∧ Hid (LeftIs L r.small z) ∧ Below w.heap.size w w' := by
  obtain ⟨cap, first, ra, rl, rc, ca, cl, cc, recs, curs⟩ := r
  have HR : Hid (∀ o, Strs (w.alloc o) ra rl recs) := fun o => strs_below hi.strs ((Below.refl _ _).alloc (Nat.le_refl _) _)
  have HS : Hid (∀ s ∈ recs, s.size ≤ maxLen) := hi.sz
  have hn : rl ≤ maxLen := hi.rle
  have hm : cl ≤ maxLen := hi.cle
  clear hi
  have HQ : Hid _ := fun o => law_szStrs ra rl rc recs L (w.alloc o) (HR.out o) hn HS.out hL
  have hQ : LeftIs L (rl ≤ L ∧ ∀ s ∈ recs, s.size ≤ L) (szLeft L rl (strSum recs)) := szLeft_is fun h => ⟨by omega, fun s hs => by have := strSum_mem recs s hs; omega⟩
  obtain ⟨z, hz⟩ : ∃ z, szLeft L rl (strSum recs) = z := ⟨_, rfl⟩
  rw [hz] at HQ hQ
  clear hz
  rcases hQ with rfl | ⟨x, rfl, hx, hr, hs⟩
  · go_enter Tryz.func67, Tryz.ntmps67
    go_wp2_with fail
    refine (HQ.out _).mono ?_
    rintro e w1 ⟨rfl, rfl⟩
    go_wp2
    go_ret
    exact ⟨_, rfl, .inl rfl, (Below.refl _ _).alloc (Nat.le_refl _) _⟩
  · have HT : Hid (∀ s ∈ recs, s.size ≤ L) := hs
    clear hs
    have hQ2 : LeftIs x (cl ≤ x) (szLeft x cl 0) := szLeft_is fun h => by omega
    have HC : Hid _ := fun w => law_szCurs ca cl cc x w hm (by omega)
    obtain ⟨z, hz⟩ : ∃ z, szLeft x cl 0 = z := ⟨_, rfl⟩
    rw [hz] at HC hQ2
    clear hz
    rcases hQ2 with rfl | ⟨y, rfl, hy, hc⟩
    · go_enter Tryz.func67, Tryz.ntmps67
      go_wp2_with fail
      refine (HQ.out _).mono ?_
      rintro e w1 ⟨rfl, rfl⟩
      go_wp2_with fail
      refine (HC.out _).mono ?_
      rintro e w1 ⟨rfl, rfl⟩
      go_wp2
      go_ret
      exact ⟨_, rfl, .inl rfl, (Below.refl _ _).alloc (Nat.le_refl _) _⟩
    · go_enter Tryz.func67, Tryz.ntmps67
      go_wp2_with fail
      refine (HQ.out _).mono ?_
      rintro e w1 ⟨rfl, rfl⟩
      go_wp2_with fail
      refine (HC.out _).mono ?_
      rintro e w1 ⟨rfl, rfl⟩
      go_wp2
      go_ret
      exact ⟨_, rfl, .inr ⟨y, rfl, by omega, show rl ≤ 1048576 by omega, show cl ≤ 1048576 by omega, fun s h => by have := HT.out s h; omega⟩, (Below.refl _ _).alloc (Nat.le_refl _) _⟩
def smallTo {α : Type} (S : α → Prop) (l : List α) (k : Nat) : Prop := ∀ j, j < k → ∀ (h : j < l.length), S l[j]
theorem small_all {α : Type} {S : α → Prop} {l : List α} {k : Nat} (hk : l.length ≤ k) (h : smallTo S l k) : ∀ r ∈ l, S r := fun r hr => by
  obtain ⟨j, hj, rfl⟩ := List.getElem_of_mem hr
  exact h j (by omega) hj
theorem small_succ {α : Type} {S : α → Prop} {l : List α} {k : Nat} {r : α} (h : smallTo S l k) (hk : l[k]? = some r) (hr : S r) : smallTo S l (k + 1) := fun j hj hl => by
  by_cases e : j = k
  · subst e
    rw [List.getElem?_eq_getElem hl] at hk
    cases hk; exact hr
  · exact h j (by omega) hl
set_option maxHeartbeats 2000000 in
theorem law_szRings (a : Option Addr) (n c : Nat) (l : List RD) (L : Nat) (w : World) (hi : LRngs w a n l) (hn : n ≤ maxLen) (hL : L ≤ 1048576) :
    Calls Tryz.prog 28 #[.slice a n c, .int .i64 L] w fun e w' => ∃ z : Int, e = .returned (.int .i64 z) ∧ Hid (LeftIs L (n ≤ L ∧ ∀ r ∈ l, r.small) z) ∧ Below w.heap.size w w' := by
  have hl : l.length = n := hi.1
  unfold maxLen at hn
  have HI : Hid (LRngs w a n l) := hi
  have HL : Hid _ := hl
  clear hi hl
  by_cases h0 : L < n
  · go_enter Tryz.func28, Tryz.ntmps28
    go_wp2
    go_ret
    exact ⟨_, rfl, .inl rfl, Below.refl _ _⟩
  · go_enter Tryz.func28, Tryz.ntmps28
    go_wp2
    go_loopw [1, 5] (fun q i wr => ∃ (k x : Nat), k ≤ n ∧ i = .int .i64 k ∧ q = .int .i64 x ∧ x ≤ L ∧ Hid (smallTo RD.small l k) ∧ Hid (Below w.heap.size w wr)) (fun _ i _ => n - (intOf i).toNat)
    case atStart => exact ⟨0, L - n, by omega, rfl, by go_num, by omega, fun j hj => by omega, Below.refl _ _⟩
    case round =>
      obtain ⟨k, x, hk, rfl, rfl, hx, hs, hw⟩ := hrel
      by_cases hlt : k < n
      · obtain ⟨b, off, r, rfl, e1, g0, g1, g2, g3, hf⟩ := rngsG_at keeps_lin HI.out hw.out hlt
        have HE : Hid (l[k]? = some r) := e1
        have HQ : Hid _ := fun w h => law_szRingL r x w h (by omega)
        clear e1
        go_wp2_with fail
        refine (HQ.out _ hf.out).mono ?_
        rintro e w2 ⟨z, rfl, hz, hb2⟩
        have HW2 : Hid (Below w.heap.size w w2) := below_tr hw.out hb2
        clear hb2
        rcases hz.out with rfl | ⟨y, rfl, hy, hq⟩
        · go_wp2
          go_ret
          exact ⟨_, rfl, .inl rfl, HW2.out⟩
        · have HN := small_succ hs.out HE.out hq
          clear hz
          go_wp2
          exact ⟨⟨k + 1, y, by omega, by go_num, rfl, by omega, HN, HW2.out⟩, by simp [intOf]; omega⟩
      · go_wp2
        go_ret
        exact ⟨_, rfl, .inr ⟨x, rfl, hx, by omega, small_all (by rw [HL.out]; omega) hs.out⟩, hw.out⟩
theorem txnLeft_is {L n m : Nat} : LeftIs L (n ≤ L ∧ m ≤ L) (txnLeft L n m) := by
  unfold txnLeft LeftIs
  by_cases hh : n + m ≤ L
  · rw [if_pos hh]; exact .inr ⟨_, rfl, by omega, by omega, by omega⟩
  · rw [if_neg hh]; exact .inl rfl
theorem nszLeft_is {L n : Nat} : LeftIs L (n ≤ L) (nszLeft L n) := by
  unfold nszLeft LeftIs
  by_cases hh : n ≤ L
  · rw [if_pos hh]; exact .inr ⟨_, rfl, by omega, hh⟩
  · rw [if_neg hh]; exact .inl rfl
theorem law_szTxnL (t : TD) (L : Nat) (w : World) (hi : t.lin w) (hL : L ≤ 1048576) :
    Calls Tryz.prog 68 #[t.v, .int .i64 L] w fun e w' => ∃ z : Int, e = .returned (.int .i64 z) ∧ Hid (LeftIs L t.small z) ∧ Below w.heap.size w w' :=
  (law_szTxn L w hi.l.rle hi.l.lle hL).mono (fun e w' h => ⟨_, h.1, (by
    show LeftIs _ _ _
    rcases (txnLeft_is : LeftIs L (t.rl ≤ L ∧ t.ll ≤ L) (txnLeft L t.rl t.ll)) with h | ⟨x, h, hx, h1, h2⟩
    · exact .inl h
    · exact .inr ⟨x, h, hx, show t.rl ≤ 1048576 by omega, show t.ll ≤ 1048576 by omega⟩), h.2⟩)
set_option maxHeartbeats 2000000 in
theorem law_szTxns (a : Option Addr) (n c : Nat) (l : List TD) (L : Nat) (w : World) (hi : LTxs w a n l) (hn : n ≤ maxLen) (hL : L ≤ 1048576) :
    Calls Tryz.prog 30 #[.slice a n c, .int .i64 L] w fun e w' => ∃ z : Int, e = .returned (.int .i64 z) ∧ Hid (LeftIs L (n ≤ L ∧ ∀ r ∈ l, r.small) z) ∧ Below w.heap.size w w' := by
  have hl : l.length = n := hi.1
  unfold maxLen at hn
  have HI : Hid (LTxs w a n l) := hi
  have HL : Hid _ := hl
  clear hi hl
  by_cases h0 : L < n
  · go_enter Tryz.func30, Tryz.ntmps30
    go_wp2
    go_ret
    exact ⟨_, rfl, .inl rfl, Below.refl _ _⟩
  · go_enter Tryz.func30, Tryz.ntmps30
    go_wp2
    go_loopw [1, 5] (fun q i wr => ∃ (k x : Nat), k ≤ n ∧ i = .int .i64 k ∧ q = .int .i64 x ∧ x ≤ L ∧ Hid (smallTo TD.small l k) ∧ Hid (Below w.heap.size w wr)) (fun _ i _ => n - (intOf i).toNat)
    case atStart => exact ⟨0, L - n, by omega, rfl, by go_num, by omega, fun j hj => by omega, Below.refl _ _⟩
    case round =>
      obtain ⟨k, x, hk, rfl, rfl, hx, hs, hw⟩ := hrel
      by_cases hlt : k < n
      · obtain ⟨b, off, r, rfl, e1, g0, g1, g2, g3, g4, g5, hf⟩ := txsG_at keeps_tlin HI.out hw.out hlt
        have HE : Hid (l[k]? = some r) := e1
        have HQ : Hid _ := fun w h => law_szTxnL r x w h (by omega)
        clear e1
        go_wp2_with fail
        refine (HQ.out _ hf.out).mono ?_
        rintro e w2 ⟨z, rfl, hz, hb2⟩
        have HW2 : Hid (Below w.heap.size w w2) := below_tr hw.out hb2
        clear hb2
        rcases hz.out with rfl | ⟨y, rfl, hy, hq⟩
        · go_wp2
          go_ret
          exact ⟨_, rfl, .inl rfl, HW2.out⟩
        · have HN := small_succ hs.out HE.out hq
          clear hz
          go_wp2
          exact ⟨⟨k + 1, y, by omega, by go_num, rfl, by omega, HN, HW2.out⟩, by simp [intOf]; omega⟩
      · go_wp2
        go_ret
        exact ⟨_, rfl, .inr ⟨x, rfl, hx, by omega, small_all (by rw [HL.out]; omega) hs.out⟩, hw.out⟩
/-- What the laws ask of the fabric that is handed in. -/
structure LFIn (w : World) (ra : Option Addr) (rl : Nat) (ea : Option Addr) (el : Nat) (ta : Option Addr) (tl : Nat) (rs : List RD) (es : List Int) (ts : List TD) : Prop where
  rs : LRngs w ra rl rs
  es : Nums w ea el es
  ts : LTxs w ta tl ts
  rle : rl ≤ maxLen
  ele : el ≤ maxLen
  tle : tl ≤ maxLen
theorem LFIn.below {w w' : World} {ra : Option Addr} {rl : Nat} {ea : Option Addr} {el : Nat} {ta : Option Addr} {tl : Nat} {rs : List RD} {es : List Int} {ts : List TD} (h : LFIn w ra rl ea el ta tl rs es ts) (hb : Below w.heap.size w w') : LFIn w' ra rl ea el ta tl rs es ts :=
  ⟨rngsG_below keeps_lin h.rs hb, nums_below h.es hb, txsG_below keeps_tlin h.ts hb, h.rle, h.ele, h.tle⟩
/-- A fabric that is not too large. -/
def FSmall (rl el tl : Nat) (rs : List RD) (ts : List TD) : Prop := rl ≤ 1048576 ∧ el ≤ 1048576 ∧ tl ≤ 1048576 ∧ (∀ r ∈ rs, r.small) ∧ ∀ t ∈ ts, t.small
set_option maxHeartbeats 2000000 in
theorem law_szFab (ra : Option Addr) (rl rc : Nat) (ea : Option Addr) (el ec : Nat) (ta : Option Addr) (tl tc : Nat) (now : Int) (rs : List RD) (es : List Int) (ts : List TD) (w : World) (hi : LFIn w ra rl ea el ta tl rs es ts) :
    Calls Tryz.prog 9 #[fabVal ra rl rc ea el ec ta tl tc now, .int .i64 1048576] w fun e w' => ∃ z : Int, e = .returned (.int .i64 z) ∧ Hid (LeftIs 1048576 (FSmall rl el tl rs ts) z) ∧ Below w.heap.size w w' := by
  have HI : Hid (LFIn w ra rl ea el ta tl rs es ts) := hi
  have hel := hi.ele
  have htl := hi.tle
  have hrl := hi.rle
  clear hi
  have HB0 : Hid (∀ o, Below w.heap.size w (w.alloc o)) := fun o => fbelow_new _ _
  go_enter Tryz.func9, Tryz.ntmps9
  go_wp2_with fail
  refine (law_szRings ra rl rc rs 1048576 _ (HI.out.below (HB0.out _)).rs hrl (by omega)).mono ?_
  rintro e w1 ⟨z, rfl, hz, hb1⟩
  have HB1 : Hid (Below w.heap.size w w1) := below_tr (HB0.out _) hb1
  have hc1 := fun o => hb1.cell (p := ⟨w.heap.size, o, none⟩) (by simp)
  clear hb1
  rcases hz.out with rfl | ⟨x, rfl, hx, h1, h2⟩
  · go_wp2
    go_ret
    exact ⟨_, rfl, .inl rfl, HB1.out⟩
  have H2 : Hid (∀ r ∈ rs, r.small) := h2
  clear h2 hz
  go_wp2_with fail
  have hQ := (nszLeft_is : LeftIs x (el ≤ x) (nszLeft x el))
  refine (law_szNums ea el ec x _ hel hx).mono ?_
  rintro e w2 ⟨rfl, hw2⟩
  rw [hw2]
  clear hw2 w2
  obtain ⟨z, hz⟩ : ∃ z, nszLeft x el = z := ⟨_, rfl⟩
  rw [hz] at hQ ⊢
  clear hz
  rcases hQ with rfl | ⟨y, rfl, hy, h3⟩
  · go_wp2
    go_ret
    exact ⟨_, rfl, .inl rfl, HB1.out⟩
  go_wp2_with fail
  refine (law_szTxns ta tl tc ts y _ (HI.out.below HB1.out).ts htl (by omega)).mono ?_
  rintro e w3 ⟨z, rfl, hz, hb3⟩
  have HB3 : Hid (Below w.heap.size w w3) := below_tr HB1.out hb3
  clear hb3
  rcases hz.out with rfl | ⟨v, rfl, hv, h4, h5⟩
  · go_wp2
    go_ret
    exact ⟨_, rfl, .inl rfl, HB3.out⟩
  · have H5 : Hid (∀ t ∈ ts, t.small) := h5
    clear h5 hz
    go_wp2
    go_ret
    exact ⟨_, rfl, .inr ⟨v, rfl, by omega, by omega, by omega, by omega, H2.out, H5.out⟩, HB3.out⟩
end Go.Proofs.YtdepaeajfldfbaaGreatDoor
/- The laws' copies of rows of rings. -/
namespace Go.Proofs.YtdepaeajfldfbaaGreatDoor
open Go.RowKit

/-- A ring without where its lists lie. -/
def RD.strip (r : RD) : RD := ⟨r.cap, r.first, none, 0, 0, none, 0, 0, r.recs, r.curs⟩
def TD.strip (t : TD) : TD := ⟨t.p, t.e, t.s, t.u, none, 0, 0, none, 0, 0, t.rs, t.ls⟩
def RD.cells (r : RD) : List Value := [.int .i64 r.cap, .int .i64 r.first, .slice r.ra r.rl r.rc, .slice r.ca r.cl r.cc]
def TD.cells (t : TD) : List Value := [.int .i64 t.p, .int .i64 t.e, .int .i64 t.s, .int .i64 t.u, .slice t.ra t.rl t.rc, .slice t.la t.ll t.lc]
def rdCells (l : List RD) : List Value := l.flatMap RD.cells
def tdCells (l : List TD) : List Value := l.flatMap TD.cells
theorem pack_length {α : Type} (f : α → List Value) (s : Nat) (hf : ∀ x, (f x).length = s) (l : List α) : (l.flatMap f).length = l.length * s := by
  induction l with
  | nil => simp
  | cons x r ih => simp [hf, ih, Nat.add_mul]; omega
theorem pack_at {α : Type} (f : α → List Value) (s : Nat) (hf : ∀ x, (f x).length = s) (l : List α) (i j : Nat) (hi : i < l.length) (hj : j < s) : (l.flatMap f)[i * s + j]? = (f l[i])[j]? := by
  induction l generalizing i with
  | nil => simp at hi
  | cons x r ih =>
    rw [List.flatMap_cons]
    cases i with
    | zero => rw [Nat.zero_mul, Nat.zero_add, List.getElem?_append_left (by rw [hf]; exact hj)]; rfl
    | succ i =>
      have hi' : i < r.length := by simp at hi; omega
      rw [List.getElem?_append_right (by rw [hf, Nat.add_mul]; omega), hf]
      have : (i + 1) * s + j - s = i * s + j := by rw [Nat.add_mul]; omega
      rw [this, ih i hi']
      rfl
theorem rdCells_length (l : List RD) : (rdCells l).length = l.length * 4 := pack_length _ 4 (fun _ => rfl) l
theorem tdCells_length (l : List TD) : (tdCells l).length = l.length * 6 := pack_length _ 6 (fun _ => rfl) l
theorem rdCells_at (l : List RD) (i j : Nat) (hi : i < l.length) (hj : j < 4) : (rdCells l)[i * 4 + j]? = (l[i].cells)[j]? := pack_at _ 4 (fun _ => rfl) l i j hi hj
theorem tdCells_at (l : List TD) (i j : Nat) (hi : i < l.length) (hj : j < 6) : (tdCells l)[i * 6 + j]? = (l[i].cells)[j]? := pack_at _ 6 (fun _ => rfl) l i j hi hj
theorem drop_four (zs : List Value) (o : Nat) (h : o + 4 ≤ zs.length) : ∃ a b c d, zs.drop o = a :: b :: c :: d :: zs.drop (o + 4) := by
  refine ⟨zs[o], zs[o + 1], zs[o + 2], zs[o + 3], ?_⟩
  rw [List.drop_eq_getElem_cons (by omega), List.drop_eq_getElem_cons (by omega), List.drop_eq_getElem_cons (by omega), List.drop_eq_getElem_cons (by omega)]
theorem app_set4 (xs zs : List Value) (k : Nat) (hx : xs.length = k * 4) (hz : k * 4 + 4 ≤ zs.length) (v0 v1 v2 v3 : Value) :
    ((((xs ++ zs.drop (k * 4)).set (k * 4) v0).set (k * 4 + 1) v1).set (k * 4 + 2) v2).set (k * 4 + 3) v3 = xs ++ [v0, v1, v2, v3] ++ zs.drop ((k + 1) * 4) := by
  obtain ⟨a, b, c, d, e⟩ := drop_four zs (k * 4) hz
  rw [e, ← hx]
  rw [show (k + 1) * 4 = xs.length + 4 by omega]
  simp
theorem app_set6 (xs zs : List Value) (k : Nat) (hx : xs.length = k * 6) (hz : k * 6 + 6 ≤ zs.length) (v0 v1 v2 v3 v4 v5 : Value) :
    ((((((xs ++ zs.drop (k * 6)).set (k * 6) v0).set (k * 6 + 1) v1).set (k * 6 + 2) v2).set (k * 6 + 3) v3).set (k * 6 + 4) v4).set (k * 6 + 5) v5 = xs ++ [v0, v1, v2, v3, v4, v5] ++ zs.drop ((k + 1) * 6) := by
  obtain ⟨a, b, c, d, e⟩ := drop_four zs (k * 6) (by omega)
  obtain ⟨f, g, e2⟩ : ∃ f g, zs.drop (k * 6 + 4) = f :: g :: zs.drop (k * 6 + 6) := ⟨zs[k * 6 + 4], zs[k * 6 + 5], by
    rw [List.drop_eq_getElem_cons (by omega), List.drop_eq_getElem_cons (by omega)]⟩
  rw [e, e2, ← hx]
  rw [show (k + 1) * 6 = xs.length + 6 by omega]
  simp
theorem rngs_own {Q : World → RD → Prop} {w : World} {base e n c : Nat} {a : Option Addr} {l : List RD} (h : w.ownsRow base e 4 (.slice a n c) n (rdCells l)) (hQ : ∀ r ∈ l, Q w r) : RngsG Q w a n l := by
  have hl : l.length = n := by have := h.1; rw [rdCells_length] at this; omega
  refine ⟨hl, fun i hi => ?_⟩
  obtain ⟨g, rfl⟩ := own_nform h (by omega)
  have hat := fun j (hj : j < 4) => rdCells_at l i j hi hj
  have hc := fun j (hj : j < 4) => (h.cellAt (i * 4 + j) (by omega)).trans (hat j hj)
  refine ⟨g, 0, rfl, ?_, ?_, ?_, ?_, hQ _ (List.getElem_mem hi)⟩
  · rw [Nat.zero_add]; exact hc 0 (by omega)
  · rw [Nat.zero_add]; exact hc 1 (by omega)
  · rw [Nat.zero_add]; exact hc 2 (by omega)
  · rw [Nat.zero_add]; exact hc 3 (by omega)
theorem txs_own {Q : World → TD → Prop} {w : World} {base e n c : Nat} {a : Option Addr} {l : List TD} (h : w.ownsRow base e 6 (.slice a n c) n (tdCells l)) (hQ : ∀ r ∈ l, Q w r) : TxsG Q w a n l := by
  have hl : l.length = n := by have := h.1; rw [tdCells_length] at this; omega
  refine ⟨hl, fun i hi => ?_⟩
  obtain ⟨g, rfl⟩ := own_nform h (by omega)
  have hat := fun j (hj : j < 6) => tdCells_at l i j hi hj
  have hc := fun j (hj : j < 6) => (h.cellAt (i * 6 + j) (by omega)).trans (hat j hj)
  refine ⟨g, 0, rfl, ?_, ?_, ?_, ?_, ?_, ?_, hQ _ (List.getElem_mem hi)⟩
  · rw [Nat.zero_add]; exact hc 0 (by omega)
  · rw [Nat.zero_add]; exact hc 1 (by omega)
  · rw [Nat.zero_add]; exact hc 2 (by omega)
  · rw [Nat.zero_add]; exact hc 3 (by omega)
  · rw [Nat.zero_add]; exact hc 4 (by omega)
  · rw [Nat.zero_add]; exact hc 5 (by omega)
theorem own_fit2 {w : World} {base : Nat} {a : Option Addr} {n q : Nat} {b : Option Addr} {m p : Nat} {rs : List ByteArray} {cs : List (Int × Int)} (h : OwnRing w base a n q b m p (rs.map Value.string) (curCells cs)) (hs : ∀ s ∈ rs, s.size ≤ 1048576) (hn : n ≤ 1048576) (hm : m ≤ 1048576) (hq : q ≤ maxLen) (hp : p ≤ maxLen) : RFit w a n q b m p rs cs := by
  obtain ⟨a1, q1, e1, h1⟩ := own_strIn h.1
  obtain ⟨a2, q2, e2, h2⟩ := own_curIn h.2
  simp only [Value.slice.injEq] at e1 e2
  obtain ⟨rfl, _, rfl⟩ := e1
  obtain ⟨rfl, _, rfl⟩ := e2
  exact ⟨h1, h2, hs, hn, hm, hq, hp⟩
/-- Lists that lie off block b. -/
def RD.off (b : Nat) (r : RD) : Prop := Off b r.ra ∧ Off b r.ca
def TD.off (b : Nat) (t : TD) : Prop := Off b t.ra ∧ Off b t.la
/-- Lists that lie above block b. -/
def RD.above (b : Nat) (r : RD) : Prop := (∀ x, r.ra = some x → b < x.block) ∧ ∀ x, r.ca = some x → b < x.block
def TD.above (b : Nat) (t : TD) : Prop := (∀ x, t.ra = some x → b < x.block) ∧ ∀ x, t.la = some x → b < x.block
theorem RD.above.off {b c : Nat} {r : RD} (h : r.above b) (hc : c ≤ b) : r.off c := ⟨fun x e he => by have := h.1 x e; omega, fun x e he => by have := h.2 x e; omega⟩
theorem TD.above.off {b c : Nat} {r : TD} (h : r.above b) (hc : c ≤ b) : r.off c := ⟨fun x e he => by have := h.1 x e; omega, fun x e he => by have := h.2 x e; omega⟩
theorem RFit.grown {w w' : World} {b : Nat} {ra : Option Addr} {rl rc : Nat} {ca : Option Addr} {cl cc : Nat} {recs : List ByteArray} {curs : List (Int × Int)} (h : RFit w ra rl rc ca cl cc recs curs) (hg : w.grownBy w' (some b)) (h1 : Off b ra) (h2 : Off b ca) : RFit w' ra rl rc ca cl cc recs curs :=
  ⟨⟨strs_grown h.str.strs hg h1, fun x e => Nat.lt_of_lt_of_le (h.str.lt x e) hg.size, h.str.nil, h.str.cap, h.str.off⟩,
   ⟨curs_grown h.cur.curs hg h2, fun x e => Nat.lt_of_lt_of_le (h.cur.lt x e) hg.size, h.cur.nil, h.cur.cap, h.cur.off⟩, h.sz, h.rle, h.cle, h.rcm, h.ccm⟩
abbrev set4 (w : World) (b o : Nat) (v0 v1 v2 v3 : Value) : World := (((w.setCell ⟨b, o, none⟩ v0).setCell ⟨b, o + 1, none⟩ v1).setCell ⟨b, o + 2, none⟩ v2).setCell ⟨b, o + 3, none⟩ v3
abbrev setB6 (w : World) (b o : Nat) (v0 v1 v2 v3 v4 v5 : Value) : World := (((((w.setCell ⟨b, o, none⟩ v0).setCell ⟨b, o + 1, none⟩ v1).setCell ⟨b, o + 2, none⟩ v2).setCell ⟨b, o + 3, none⟩ v3).setCell ⟨b, o + 4, none⟩ v4).setCell ⟨b, o + 5, none⟩ v5
theorem grown_set4 (w : World) (b o : Nat) (v0 v1 v2 v3 : Value) : w.grownBy (set4 w b o v0 v1 v2 v3) (some b) :=
  (((grown_setc w b o v0).trans (grown_setc _ b _ v1)).trans (grown_setc _ b _ v2)).trans (grown_setc _ b _ v3)
theorem grown_setB6 (w : World) (b o : Nat) (v0 v1 v2 v3 v4 v5 : Value) : w.grownBy (setB6 w b o v0 v1 v2 v3 v4 v5) (some b) :=
  (((((grown_setc w b o v0).trans (grown_setc _ b _ v1)).trans (grown_setc _ b _ v2)).trans (grown_setc _ b _ v3)).trans (grown_setc _ b _ v4)).trans (grown_setc _ b _ v5)
theorem own_set4 {w : World} {base e n c B : Nat} {xs : List Value} (h : w.ownsRow base e 4 (.slice (some ⟨B, 0, none⟩) n c) n xs) (k : Nat) (v0 v1 v2 v3 : Value) :
    (set4 w B (k * 4) v0 v1 v2 v3).ownsRow base e 4 (.slice (some ⟨B, 0, none⟩) n c) n ((((xs.set (k * 4) v0).set (k * 4 + 1) v1).set (k * 4 + 2) v2).set (k * 4 + 3) v3) :=
  ((((h.stored (k * 4) v0).1.stored (k * 4 + 1) v1).1.stored (k * 4 + 2) v2).1.stored (k * 4 + 3) v3).1
theorem own_setB6 {w : World} {base e n c B : Nat} {xs : List Value} (h : w.ownsRow base e 6 (.slice (some ⟨B, 0, none⟩) n c) n xs) (k : Nat) (v0 v1 v2 v3 v4 v5 : Value) :
    (setB6 w B (k * 6) v0 v1 v2 v3 v4 v5).ownsRow base e 6 (.slice (some ⟨B, 0, none⟩) n c) n ((((((xs.set (k * 6) v0).set (k * 6 + 1) v1).set (k * 6 + 2) v2).set (k * 6 + 3) v3).set (k * 6 + 4) v4).set (k * 6 + 5) v5) :=
  ((((((h.stored (k * 6) v0).1.stored (k * 6 + 1) v1).1.stored (k * 6 + 2) v2).1.stored (k * 6 + 3) v3).1.stored (k * 6 + 4) v4).1.stored (k * 6 + 5) v5).1
end Go.Proofs.YtdepaeajfldfbaaGreatDoor
/- The laws' copies of rows of rings, and of transactions. -/
namespace Go.Proofs.YtdepaeajfldfbaaGreatDoor
open Go.RowKit

theorem info_ringF : (Tryz.prog.info? 90).map (fun i => (i.zero, i.size, i.bytes)) = some (some (.agg #[.int .i64 0, .int .i64 0, .slice none 0 0, .slice none 0 0]), 4, 64) := by kernel_rfl
theorem info_txnF : (Tryz.prog.info? 79).map (fun i => (i.zero, i.size, i.bytes)) = some (some (.agg #[.int .i64 0, .int .i64 0, .int .i64 0, .int .i64 0, .slice none 0 0, .slice none 0 0]), 6, 80) := by kernel_rfl
/-- What stands while rings are copied: m so far. -/
structure RWr (w wr : World) (n : Nat) (zs : List Value) (l m : List RD) (k : Nat) : Prop where
  own : wr.ownsRow w.heap.size 90 4 (.slice (some ⟨w.heap.size, 0, none⟩) n n) n (rdCells m ++ zs.drop (k * 4))
  len : m.length = k
  fit : ∀ r ∈ m, r.fit wr ∧ r.above w.heap.size
  same : m.map RD.strip = (l.take k).map RD.strip
  bel : Below w.heap.size w wr
theorem RWr.step {w wr w2 : World} {n : Nat} {zs : List Value} {l m : List RD} {k : Nat} (h : RWr w wr n zs l m k) (hz : zs.length = n * 4) (hk : k < n) {r r' : RD} (hl : l[k]? = some r) (hs : r'.strip = r.strip) (hb : Below wr.heap.size wr w2) (hf : r'.fit w2) (ho : r'.above w.heap.size) :
    RWr w (set4 w2 w.heap.size (k * 4) (.int .i64 r'.cap) (.int .i64 r'.first) (.slice r'.ra r'.rl r'.rc) (.slice r'.ca r'.cl r'.cc)) n zs l (m ++ [r']) (k + 1) := by
  have hg := grown_set4 w2 w.heap.size (k * 4) (.int .i64 r'.cap) (.int .i64 r'.first) (.slice r'.ra r'.rl r'.rc) (.slice r'.ca r'.cl r'.cc)
  have h2 : w2.ownsRow w.heap.size 90 4 (.slice (some ⟨w.heap.size, 0, none⟩) n n) n (rdCells m ++ zs.drop (k * 4)) := h.own.kept (below_grown hb) (.inr (by simp [Value.ownBlock]))
  refine ⟨?_, by simp [h.len], fun x hx => ?_, ?_, ?_⟩
  · have h3 := own_set4 h2 k (.int .i64 r'.cap) (.int .i64 r'.first) (.slice r'.ra r'.rl r'.rc) (.slice r'.ca r'.cl r'.cc)
    rw [app_set4 _ _ _ (by rw [rdCells_length, h.len]) (by omega)] at h3
    rw [show rdCells (m ++ [r']) = rdCells m ++ [.int .i64 r'.cap, .int .i64 r'.first, .slice r'.ra r'.rl r'.rc, .slice r'.ca r'.cl r'.cc] by simp [rdCells, RD.cells]]
    exact h3
  · rcases List.mem_append.1 hx with hx | hx
    · obtain ⟨h4, h5⟩ := h.fit x hx
      exact ⟨(h4.below hb).grown hg (h5.off (Nat.le_refl _)).1 (h5.off (Nat.le_refl _)).2, h5⟩
    · rw [List.mem_singleton.1 hx]
      exact ⟨hf.grown hg (ho.off (Nat.le_refl _)).1 (ho.off (Nat.le_refl _)).2, ho⟩
  · obtain ⟨hj, e⟩ := List.getElem?_eq_some_iff.1 hl
    rw [List.take_succ_eq_append_getElem hj, List.map_append, List.map_append, h.same, e]
    simp [hs]
  · exact (below_tr h.bel hb).grown hg (below_tr h.bel hb).size (fun j e => by cases e; exact Nat.le_refl _)
set_option maxHeartbeats 2000000 in
theorem law_toRings (a : Option Addr) (n c : Nat) (l : List RD) (w : World) (hi : LRngs w a n l) (hn : n ≤ 1048576) (hs : ∀ r ∈ l, r.small) :
    Calls Tryz.prog 34 #[.slice a n c] w fun e w' => ∃ m : List RD, e = .returned (.slice (some ⟨w.heap.size, 0, none⟩) n n) ∧ Hid (Rngs w' (some ⟨w.heap.size, 0, none⟩) n m) ∧ Hid (m.map RD.strip = l.map RD.strip) ∧ Hid (∀ r ∈ m, r.above w.heap.size) ∧ Below w.heap.size w w' := by
  obtain ⟨i0, hi0, hz0, hz1, hz2⟩ := info_parts info_ringF
  have HI : Hid (LRngs w a n l) := hi
  have HL : Hid (l.length = n) := hi.1
  have HS : Hid (∀ r ∈ l, r.small) := hs
  clear hi hs
  go_enter Tryz.func34, Tryz.ntmps34
  go_wp2_with (at_make; refine wpList_make_full _ rfl _ _ 29 rfl w.heap.size 90 i0 _ 4 Tryz.underlying29 hi0 hz0 hz1 _ _ _ _ n rfl rfl rfl rfl (by rw [hz2]; omega) (by unfold maxLen; omega) (Nat.le_refl _) ?_; intro w1 ho1 hg1)
  obtain ⟨zs, hzs⟩ : ∃ zs, (madeCells (Value.cells (.agg #[.int .i64 0, .int .i64 0, .slice none 0 0, .slice none 0 0])) (n * 4)).toList = zs := ⟨_, rfl⟩
  have ho : w1.ownsRow w.heap.size 90 4 (.slice (some ⟨w.heap.size, 0, none⟩) n n) n zs := by rw [← hzs]; exact ho1
  have HZ : Hid (zs.length = n * 4) := ho.1
  have HB : Hid (Below w.heap.size w w1) := (Below.refl _ _).grown hg1 (Nat.le_refl _) (fun k e => by cases e)
  have HO : Hid (RWr w w1 n zs l [] 0) := ⟨by simpa [rdCells] using ho, rfl, (fun r h => by cases h), by simp, HB.out⟩
  clear ho1 hzs hg1 ho HB
  go_loopw [4] (fun i wr => ∃ k : Nat, ∃ m : List RD, k ≤ n ∧ i = .int .i64 k ∧ Hid (RWr w wr n zs l m k)) (fun i _ => n - (intOf i).toNat)
  case atStart => exact ⟨0, [], by omega, rfl, HO.out⟩
  case round =>
    obtain ⟨k, m, hk, rfl, ho⟩ := hrel
    by_cases hlt : k < n
    · obtain ⟨b, off, r, rfl, e1, g0, g1, g2, g3, hf⟩ := rngsG_at keeps_lin HI.out ho.out.bel hlt
      have hsm := HS.out r (List.mem_of_getElem? e1)
      have HE : Hid (l[k]? = some r) := e1
      have HM : Hid (r.small) := hsm
      have hr1 := hsm.1
      have hr2 := hsm.2.1
      clear e1 hsm
      have hlen : (rdCells m ++ zs.drop (k * 4)).length = n * 4 := ho.out.own.1
      have hlt2 := ho.out.own.lt w.heap.size rfl
      obtain ⟨x0, q0⟩ : ∃ x, wr.cell? ⟨w.heap.size, k * 4, none⟩ = some x := ⟨_, (ho.out.own.cellAt (k * 4) (by omega)).trans (List.getElem?_eq_getElem (by omega))⟩
      obtain ⟨x1, q1⟩ : ∃ x, wr.cell? ⟨w.heap.size, k * 4 + 1, none⟩ = some x := ⟨_, (ho.out.own.cellAt (k * 4 + 1) (by omega)).trans (List.getElem?_eq_getElem (by omega))⟩
      obtain ⟨x2, q2⟩ : ∃ x, wr.cell? ⟨w.heap.size, k * 4 + 2, none⟩ = some x := ⟨_, (ho.out.own.cellAt (k * 4 + 2) (by omega)).trans (List.getElem?_eq_getElem (by omega))⟩
      obtain ⟨x3, q3⟩ : ∃ x, wr.cell? ⟨w.heap.size, k * 4 + 3, none⟩ = some x := ⟨_, (ho.out.own.cellAt (k * 4 + 3) (by omega)).trans (List.getElem?_eq_getElem (by omega))⟩
      have p0 := ho.out.own.frozenAt (k * 4)
      have p1 := ho.out.own.frozenAt (k * 4 + 1)
      have p2 := ho.out.own.frozenAt (k * 4 + 2)
      have p3 := ho.out.own.frozenAt (k * 4 + 3)
      clear hlen
      go_wp2_with fail
      refine (law_toRing r.cap r.first r.ra r.rl r.rc r.ca r.cl r.cc r.recs r.curs _ hf.out.strs hf.out.curs hr1 hr2).mono ?_
      rintro e w2 ⟨A, C, rfl, hor, hb2⟩
      have d0 := (hb2.cell (p := ⟨w.heap.size, k * 4, none⟩) hlt2.2).trans q0
      have d1 := (hb2.cell (p := ⟨w.heap.size, k * 4 + 1, none⟩) hlt2.2).trans q1
      have d2 := (hb2.cell (p := ⟨w.heap.size, k * 4 + 2, none⟩) hlt2.2).trans q2
      have d3 := (hb2.cell (p := ⟨w.heap.size, k * 4 + 3, none⟩) hlt2.2).trans q3
      have f0 := (hb2.frozen (p := ⟨w.heap.size, k * 4, none⟩) hlt2.2).trans p0
      have f1 := (hb2.frozen (p := ⟨w.heap.size, k * 4 + 1, none⟩) hlt2.2).trans p1
      have f2 := (hb2.frozen (p := ⟨w.heap.size, k * 4 + 2, none⟩) hlt2.2).trans p2
      have f3 := (hb2.frozen (p := ⟨w.heap.size, k * 4 + 3, none⟩) hlt2.2).trans p3
      have HN : Hid (RWr w (set4 w2 w.heap.size (k * 4) (.int .i64 r.cap) (.int .i64 r.first) (.slice (some ⟨A, 0, none⟩) r.rl r.rl) (.slice (some ⟨C, 0, none⟩) r.cl r.cl)) n zs l (m ++ [⟨r.cap, r.first, some ⟨A, 0, none⟩, r.rl, r.rl, some ⟨C, 0, none⟩, r.cl, r.cl, r.recs, r.curs⟩]) (k + 1)) :=
        ho.out.step HZ.out hlt HE.out (r' := ⟨r.cap, r.first, some ⟨A, 0, none⟩, r.rl, r.rl, some ⟨C, 0, none⟩, r.cl, r.cl, r.recs, r.curs⟩) rfl hb2 (own_fit2 hor HM.out.2.2 hr1 hr2 (show r.rl ≤ maxLen by unfold maxLen; omega) (show r.cl ≤ maxLen by unfold maxLen; omega))
          ⟨fun x e => by cases e; have := (hor.1.lt A rfl).1; show _ < A; omega, fun x e => by cases e; have := (hor.2.lt C rfl).1; show _ < C; omega⟩
      clear hor hb2 q0 q1 q2 q3 p0 p1 p2 p3
      go_wp2
      exact ⟨⟨k + 1, _, by omega, by go_num, HN.out⟩, by simp [intOf]; omega⟩
    · obtain rfl : k = n := by omega
      have H1 : Hid (Rngs wr (some ⟨w.heap.size, 0, none⟩) k m) := by
        have h := ho.out.own
        rw [List.drop_of_length_le (by rw [HZ.out]; omega), List.append_nil] at h
        exact rngs_own (Q := fun w r => r.fit w) h (fun r hr => (ho.out.fit r hr).1)
      have H2 : Hid (m.map RD.strip = l.map RD.strip) := by
        have h := ho.out.same
        rw [List.take_of_length_le (by rw [HL.out]; omega)] at h
        exact h
      go_wp2
      go_ret
      exact ⟨m, rfl, H1.out, H2.out, (fun r hr => (ho.out.fit r hr).2), ho.out.bel⟩
/-- What stands while transactions are copied: m so far. -/
structure TWr (w wr : World) (n : Nat) (zs : List Value) (l m : List TD) (k : Nat) : Prop where
  own : wr.ownsRow w.heap.size 79 6 (.slice (some ⟨w.heap.size, 0, none⟩) n n) n (tdCells m ++ zs.drop (k * 6))
  len : m.length = k
  fit : ∀ r ∈ m, TFit wr r ∧ r.above w.heap.size
  same : m.map TD.strip = (l.take k).map TD.strip
  bel : Below w.heap.size w wr
theorem nums_grown {w w' : World} {a : Option Addr} {n b : Nat} {l : List Int} (h : Nums w a n l) (hg : w.grownBy w' (some b)) (ho : Off b a) : Nums w' a n l :=
  ⟨h.1, fun i hi => by
    obtain ⟨c, off, e, hc⟩ := h.2 i hi
    exact ⟨c, off, e, (grown_cell hg (World.block_lt_of_cell? w ⟨c, off + i, none⟩ hc) (by have := ho _ e; simp at this ⊢; exact this) _).trans hc⟩⟩
theorem NumIn.grown {w w' : World} {b : Nat} {a : Option Addr} {n c : Nat} {l : List Int} (h : NumIn w a n c l) (hg : w.grownBy w' (some b)) (ho : Off b a) : NumIn w' a n c l :=
  ⟨nums_grown h.nums hg ho, fun x e => Nat.lt_of_lt_of_le (h.lt x e) hg.size, h.nil, h.cap, h.off⟩
theorem TFit.grown {w w' : World} {b : Nat} {t : TD} (h : TFit w t) (hg : w.grownBy w' (some b)) (ho : t.off b) : TFit w' t := ⟨h.r.grown hg ho.1, h.l.grown hg ho.2, h.rle, h.lle, h.pw⟩
theorem TWr.step {w wr w2 : World} {n : Nat} {zs : List Value} {l m : List TD} {k : Nat} (h : TWr w wr n zs l m k) (hz : zs.length = n * 6) (hk : k < n) {r r' : TD} (hl : l[k]? = some r) (hs : r'.strip = r.strip) (hb : Below wr.heap.size wr w2) (hf : TFit w2 r') (ho : r'.above w.heap.size) :
    TWr w (setB6 w2 w.heap.size (k * 6) (.int .i64 r'.p) (.int .i64 r'.e) (.int .i64 r'.s) (.int .i64 r'.u) (.slice r'.ra r'.rl r'.rc) (.slice r'.la r'.ll r'.lc)) n zs l (m ++ [r']) (k + 1) := by
  have hg := grown_setB6 w2 w.heap.size (k * 6) (.int .i64 r'.p) (.int .i64 r'.e) (.int .i64 r'.s) (.int .i64 r'.u) (.slice r'.ra r'.rl r'.rc) (.slice r'.la r'.ll r'.lc)
  have h2 : w2.ownsRow w.heap.size 79 6 (.slice (some ⟨w.heap.size, 0, none⟩) n n) n (tdCells m ++ zs.drop (k * 6)) := h.own.kept (below_grown hb) (.inr (by simp [Value.ownBlock]))
  refine ⟨?_, by simp [h.len], fun x hx => ?_, ?_, ?_⟩
  · have h3 := own_setB6 h2 k (.int .i64 r'.p) (.int .i64 r'.e) (.int .i64 r'.s) (.int .i64 r'.u) (.slice r'.ra r'.rl r'.rc) (.slice r'.la r'.ll r'.lc)
    rw [app_set6 _ _ _ (by rw [tdCells_length, h.len]) (by omega)] at h3
    rw [show tdCells (m ++ [r']) = tdCells m ++ [.int .i64 r'.p, .int .i64 r'.e, .int .i64 r'.s, .int .i64 r'.u, .slice r'.ra r'.rl r'.rc, .slice r'.la r'.ll r'.lc] by simp [tdCells, TD.cells]]
    exact h3
  · rcases List.mem_append.1 hx with hx | hx
    · obtain ⟨h4, h5⟩ := h.fit x hx
      exact ⟨(h4.below hb).grown hg (h5.off (Nat.le_refl _)), h5⟩
    · rw [List.mem_singleton.1 hx]
      exact ⟨hf.grown hg (ho.off (Nat.le_refl _)), ho⟩
  · obtain ⟨hj, e⟩ := List.getElem?_eq_some_iff.1 hl
    rw [List.take_succ_eq_append_getElem hj, List.map_append, List.map_append, h.same, e]
    simp [hs]
  · exact (below_tr h.bel hb).grown hg (below_tr h.bel hb).size (fun j e => by cases e; exact Nat.le_refl _)
theorem own_tfit {w : World} {base : Nat} {t : TD} (h : OwnTxn w base t.ra t.rl t.rc t.la t.ll t.lc (numCells t.rs) (numCells t.ls)) (hn : t.rl ≤ 1048576) (hm : t.ll ≤ 1048576) (hp : -9223372036854775808 ≤ t.p ∧ t.p ≤ 9223372036854775807) : TFit w t := by
  obtain ⟨a1, q1, e1, h1⟩ := own_numIn h.1
  obtain ⟨a2, q2, e2, h2⟩ := own_numIn h.2.1
  simp only [Value.slice.injEq] at e1 e2
  obtain ⟨e3, _, e4⟩ := e1
  obtain ⟨e5, _, e6⟩ := e2
  rw [← e3, ← e4] at h1
  rw [← e5, ← e6] at h2
  exact ⟨h1, h2, hn, hm, hp⟩
set_option maxHeartbeats 2000000 in
theorem law_toTxns (a : Option Addr) (n c : Nat) (l : List TD) (w : World) (hi : LTxs w a n l) (hn : n ≤ 1048576) (hs : ∀ r ∈ l, r.small) :
    Calls Tryz.prog 36 #[.slice a n c] w fun e w' => ∃ m : List TD, e = .returned (.slice (some ⟨w.heap.size, 0, none⟩) n n) ∧ Hid (Txs w' (some ⟨w.heap.size, 0, none⟩) n m) ∧ Hid (m.map TD.strip = l.map TD.strip) ∧ Hid (∀ r ∈ m, r.above w.heap.size) ∧ Below w.heap.size w w' := by
  obtain ⟨i0, hi0, hz0, hz1, hz2⟩ := info_parts info_txnF
  have HI : Hid (LTxs w a n l) := hi
  have HL : Hid (l.length = n) := hi.1
  have HS : Hid (∀ r ∈ l, r.small) := hs
  clear hi hs
  go_enter Tryz.func36, Tryz.ntmps36
  go_wp2_with (at_make; refine wpList_make_full _ rfl _ _ 30 rfl w.heap.size 79 i0 _ 6 Tryz.underlying30 hi0 hz0 hz1 _ _ _ _ n rfl rfl rfl rfl (by rw [hz2]; omega) (by unfold maxLen; omega) (Nat.le_refl _) ?_; intro w1 ho1 hg1)
  obtain ⟨zs, hzs⟩ : ∃ zs, (madeCells (Value.cells (.agg #[.int .i64 0, .int .i64 0, .int .i64 0, .int .i64 0, .slice none 0 0, .slice none 0 0])) (n * 6)).toList = zs := ⟨_, rfl⟩
  have ho : w1.ownsRow w.heap.size 79 6 (.slice (some ⟨w.heap.size, 0, none⟩) n n) n zs := by rw [← hzs]; exact ho1
  have HZ : Hid (zs.length = n * 6) := ho.1
  have HB : Hid (Below w.heap.size w w1) := (Below.refl _ _).grown hg1 (Nat.le_refl _) (fun k e => by cases e)
  have HO : Hid (TWr w w1 n zs l [] 0) := ⟨by simpa [tdCells] using ho, rfl, (fun r h => by cases h), by simp, HB.out⟩
  clear ho1 hzs hg1 ho HB
  go_loopw [4] (fun i wr => ∃ k : Nat, ∃ m : List TD, k ≤ n ∧ i = .int .i64 k ∧ Hid (TWr w wr n zs l m k)) (fun i _ => n - (intOf i).toNat)
  case atStart => exact ⟨0, [], by omega, rfl, HO.out⟩
  case round =>
    obtain ⟨k, m, hk, rfl, ho⟩ := hrel
    by_cases hlt : k < n
    · obtain ⟨b, off, r, rfl, e1, g0, g1, g2, g3, g4, g5, hf⟩ := txsG_at keeps_tlin HI.out ho.out.bel hlt
      have hsm := HS.out r (List.mem_of_getElem? e1)
      have HE : Hid (l[k]? = some r) := e1
      have hr1 := hsm.1
      have hr2 := hsm.2
      clear e1 hsm
      have hlen : (tdCells m ++ zs.drop (k * 6)).length = n * 6 := ho.out.own.1
      have hlt2 := ho.out.own.lt w.heap.size rfl
      obtain ⟨x0, q0⟩ : ∃ x, wr.cell? ⟨w.heap.size, k * 6, none⟩ = some x := ⟨_, (ho.out.own.cellAt (k * 6) (by omega)).trans (List.getElem?_eq_getElem (by omega))⟩
      obtain ⟨x1, q1⟩ : ∃ x, wr.cell? ⟨w.heap.size, k * 6 + 1, none⟩ = some x := ⟨_, (ho.out.own.cellAt (k * 6 + 1) (by omega)).trans (List.getElem?_eq_getElem (by omega))⟩
      obtain ⟨x2, q2⟩ : ∃ x, wr.cell? ⟨w.heap.size, k * 6 + 2, none⟩ = some x := ⟨_, (ho.out.own.cellAt (k * 6 + 2) (by omega)).trans (List.getElem?_eq_getElem (by omega))⟩
      obtain ⟨x3, q3⟩ : ∃ x, wr.cell? ⟨w.heap.size, k * 6 + 3, none⟩ = some x := ⟨_, (ho.out.own.cellAt (k * 6 + 3) (by omega)).trans (List.getElem?_eq_getElem (by omega))⟩
      obtain ⟨x4, q4⟩ : ∃ x, wr.cell? ⟨w.heap.size, k * 6 + 4, none⟩ = some x := ⟨_, (ho.out.own.cellAt (k * 6 + 4) (by omega)).trans (List.getElem?_eq_getElem (by omega))⟩
      obtain ⟨x5, q5⟩ : ∃ x, wr.cell? ⟨w.heap.size, k * 6 + 5, none⟩ = some x := ⟨_, (ho.out.own.cellAt (k * 6 + 5) (by omega)).trans (List.getElem?_eq_getElem (by omega))⟩
      have p0 := ho.out.own.frozenAt (k * 6)
      have p1 := ho.out.own.frozenAt (k * 6 + 1)
      have p2 := ho.out.own.frozenAt (k * 6 + 2)
      have p3 := ho.out.own.frozenAt (k * 6 + 3)
      have p4 := ho.out.own.frozenAt (k * 6 + 4)
      have p5 := ho.out.own.frozenAt (k * 6 + 5)
      clear hlen
      go_wp2_with fail
      refine (law_toTxn r.rs r.ls _ hf.out.l.rs hf.out.l.ls hr1 hr2).mono ?_
      rintro e w2 ⟨A, C, rfl, hor, hb2⟩
      have d0 := (hb2.cell (p := ⟨w.heap.size, k * 6, none⟩) hlt2.2).trans q0
      have d1 := (hb2.cell (p := ⟨w.heap.size, k * 6 + 1, none⟩) hlt2.2).trans q1
      have d2 := (hb2.cell (p := ⟨w.heap.size, k * 6 + 2, none⟩) hlt2.2).trans q2
      have d3 := (hb2.cell (p := ⟨w.heap.size, k * 6 + 3, none⟩) hlt2.2).trans q3
      have d4 := (hb2.cell (p := ⟨w.heap.size, k * 6 + 4, none⟩) hlt2.2).trans q4
      have d5 := (hb2.cell (p := ⟨w.heap.size, k * 6 + 5, none⟩) hlt2.2).trans q5
      have f0 := (hb2.frozen (p := ⟨w.heap.size, k * 6, none⟩) hlt2.2).trans p0
      have f1 := (hb2.frozen (p := ⟨w.heap.size, k * 6 + 1, none⟩) hlt2.2).trans p1
      have f2 := (hb2.frozen (p := ⟨w.heap.size, k * 6 + 2, none⟩) hlt2.2).trans p2
      have f3 := (hb2.frozen (p := ⟨w.heap.size, k * 6 + 3, none⟩) hlt2.2).trans p3
      have f4 := (hb2.frozen (p := ⟨w.heap.size, k * 6 + 4, none⟩) hlt2.2).trans p4
      have f5 := (hb2.frozen (p := ⟨w.heap.size, k * 6 + 5, none⟩) hlt2.2).trans p5
      have HN : Hid (TWr w (setB6 w2 w.heap.size (k * 6) (.int .i64 r.p) (.int .i64 r.e) (.int .i64 r.s) (.int .i64 r.u) (.slice (some ⟨A, 0, none⟩) r.rl r.rl) (.slice (some ⟨C, 0, none⟩) r.ll r.ll)) n zs l (m ++ [⟨r.p, r.e, r.s, r.u, some ⟨A, 0, none⟩, r.rl, r.rl, some ⟨C, 0, none⟩, r.ll, r.ll, r.rs, r.ls⟩]) (k + 1)) :=
        ho.out.step HZ.out hlt HE.out (r' := ⟨r.p, r.e, r.s, r.u, some ⟨A, 0, none⟩, r.rl, r.rl, some ⟨C, 0, none⟩, r.ll, r.ll, r.rs, r.ls⟩) rfl hb2 (own_tfit (t := ⟨r.p, r.e, r.s, r.u, some ⟨A, 0, none⟩, r.rl, r.rl, some ⟨C, 0, none⟩, r.ll, r.ll, r.rs, r.ls⟩) hor hr1 hr2 hf.out.pw)
          ⟨fun x e => by cases e; have := (hor.1.lt A rfl).1; show _ < A; omega, fun x e => by cases e; have := (hor.2.1.lt C rfl).1; show _ < C; omega⟩
      clear hor hb2 q0 q1 q2 q3 q4 q5 p0 p1 p2 p3 p4 p5
      go_wp2
      exact ⟨⟨k + 1, _, by omega, by go_num, HN.out⟩, by simp [intOf]; omega⟩
    · obtain rfl : k = n := by omega
      have H1 : Hid (Txs wr (some ⟨w.heap.size, 0, none⟩) k m) := by
        have h := ho.out.own
        rw [List.drop_of_length_le (by rw [HZ.out]; omega), List.append_nil] at h
        exact txs_own (Q := fun w t => TFit w t) h (fun r hr => (ho.out.fit r hr).1)
      have H2 : Hid (m.map TD.strip = l.map TD.strip) := by
        have h := ho.out.same
        rw [List.take_of_length_le (by rw [HL.out]; omega)] at h
        exact h
      go_wp2
      go_ret
      exact ⟨m, rfl, H1.out, H2.out, (fun r hr => (ho.out.fit r hr).2), ho.out.bel⟩
end Go.Proofs.YtdepaeajfldfbaaGreatDoor
/- The laws' own helpers on fabrics: that two of the same make are held equal; and the copy of a whole fabric. -/
namespace Go.Proofs.YtdepaeajfldfbaaGreatDoor
open Go.RowKit

theorem strip_at {α : Type} {f : α → α} {l m : List α} (h : l.map f = m.map f) {k : Nat} {x y : α} (hx : l[k]? = some x) (hy : m[k]? = some y) : f x = f y := by
  have h1 : (l.map f)[k]? = some (f x) := by rw [List.getElem?_map, hx]; rfl
  have h2 : (m.map f)[k]? = some (f y) := by rw [List.getElem?_map, hy]; rfl
  rw [h, h2] at h1
  exact (Option.some.inj h1).symm
set_option maxHeartbeats 2000000 in
theorem law_eqRingsF (a b : Option Addr) (n ca cb : Nat) (l m : List RD) (w : World) (ha : Rngs w a n l) (hb : Rngs w b n m) (hs : l.map RD.strip = m.map RD.strip) (hn : n ≤ 2097152) :
    Calls Tryz.prog 38 #[.slice a n ca, .slice b n cb] w fun e w' => e = .returned (.bool true) ∧ Below w.heap.size w w' := by
  have HA : Hid (Rngs w a n l) := ha
  have HB : Hid (Rngs w b n m) := hb
  have HS : Hid (l.map RD.strip = m.map RD.strip) := hs
  clear ha hb hs
  go_enter Tryz.func38, Tryz.ntmps38
  go_wp2
  go_loopw [5] (fun i wr => ∃ k : Nat, k ≤ n ∧ i = .int .i64 k ∧ Hid (Below w.heap.size w wr)) (fun i _ => n - (intOf i).toNat)
  case atStart => exact ⟨0, by omega, rfl, Below.refl _ _⟩
  case round =>
    obtain ⟨k, hk, rfl, hw⟩ := hrel
    by_cases hlt : k < n
    · obtain ⟨b1, o1, r, rfl, e1, g0, g1, g2, g3, hf⟩ := rngsG_at keeps_fit HA.out hw.out hlt
      obtain ⟨b2, o2, r', rfl, e2, i0, i1, i2, i3, hf'⟩ := rngsG_at keeps_fit HB.out hw.out hlt
      have hst := strip_at HS.out e1 e2
      clear e1 e2
      obtain ⟨C, F, xa, xl, xc, ya, yl, yc, recs, curs⟩ := r
      obtain ⟨C', F', xa', xl', xc', ya', yl', yc', recs', curs'⟩ := r'
      simp only [RD.strip, RD.mk.injEq] at hst
      obtain ⟨rfl, rfl, _, _, _, _, _, _, rfl, rfl⟩ := hst
      obtain rfl : xl = xl' := hf.out.str.strs.1.symm.trans hf'.out.str.strs.1
      obtain rfl : yl = yl' := hf.out.cur.curs.1.symm.trans hf'.out.cur.curs.1
      have HQ : Hid (∀ w, Below wr.heap.size wr w → Calls Tryz.prog 82 #[ringV C F xa xl xc ya yl yc, ringV C F xa' xl xc' ya' yl yc'] w fun e w' => e = .returned (.bool true) ∧ Below w.heap.size w w') :=
        fun w hb => law_eqRing C F xa xl xc ya yl yc xa' xc' ya' yc' recs curs w (hf.out.below hb).str.strs (hf'.out.below hb).str.strs (hf.out.below hb).cur.curs (hf'.out.below hb).cur.curs (by have := hf.out.rle; simp only at this; omega) (by have := hf.out.cle; simp only at this; omega)
      clear hf hf'
      simp only at g0 g1 g2 g3 i0 i1 i2 i3
      go_wp2
      go_region_with (first | (go_at_call 82; refine (HQ.out _ ((Below.refl _ _).drew)).mono ?_; rintro e w2 ⟨rfl, hb2⟩; have HW2 : Hid (Below w.heap.size w w2) := below_tr hw.out (below_tr ((Below.refl _ _).drew) hb2); clear hb2))
      all_goals go_wp2
      all_goals exact ⟨⟨k + 1, by omega, by go_num, HW2.out⟩, by simp [intOf]; omega⟩
    · go_wp2
      go_ret
      exact ⟨rfl, hw.out⟩
set_option maxHeartbeats 2000000 in
theorem law_eqTxnsF (a b : Option Addr) (n ca cb : Nat) (l m : List TD) (w : World) (ha : Txs w a n l) (hb : Txs w b n m) (hs : l.map TD.strip = m.map TD.strip) (hn : n ≤ 2097152) :
    Calls Tryz.prog 40 #[.slice a n ca, .slice b n cb] w fun e w' => e = .returned (.bool true) ∧ Below w.heap.size w w' := by
  have HA : Hid (Txs w a n l) := ha
  have HB : Hid (Txs w b n m) := hb
  have HS : Hid (l.map TD.strip = m.map TD.strip) := hs
  clear ha hb hs
  go_enter Tryz.func40, Tryz.ntmps40
  go_wp2
  go_loopw [5] (fun i wr => ∃ k : Nat, k ≤ n ∧ i = .int .i64 k ∧ Hid (Below w.heap.size w wr)) (fun i _ => n - (intOf i).toNat)
  case atStart => exact ⟨0, by omega, rfl, Below.refl _ _⟩
  case round =>
    obtain ⟨k, hk, rfl, hw⟩ := hrel
    by_cases hlt : k < n
    · obtain ⟨b1, o1, r, rfl, e1, g0, g1, g2, g3, g4, g5, hf⟩ := txsG_at keeps_tfit HA.out hw.out hlt
      obtain ⟨b2, o2, r', rfl, e2, i0, i1, i2, i3, i4, i5, hf'⟩ := txsG_at keeps_tfit HB.out hw.out hlt
      have hst := strip_at HS.out e1 e2
      clear e1 e2
      obtain ⟨p, q, s, u, xa, xl, xc, ya, yl, yc, rs, ls⟩ := r
      obtain ⟨p', q', s', u', xa', xl', xc', ya', yl', yc', rs', ls'⟩ := r'
      simp only [TD.strip, TD.mk.injEq] at hst
      obtain ⟨rfl, rfl, rfl, rfl, _, _, _, _, _, _, rfl, rfl⟩ := hst
      obtain rfl : xl = xl' := hf.out.r.nums.1.symm.trans hf'.out.r.nums.1
      obtain rfl : yl = yl' := hf.out.l.nums.1.symm.trans hf'.out.l.nums.1
      have HQ : Hid (∀ w, Below wr.heap.size wr w → Calls Tryz.prog 83 #[txnV p q s u xa xl xc ya yl yc, txnV p q s u xa' xl xc' ya' yl yc'] w fun e w' => e = .returned (.bool true) ∧ Below w.heap.size w w') :=
        fun w hb => law_eqTxn xa' xc' ya' yc' rs ls w (hf.out.below hb).r.nums (hf'.out.below hb).r.nums (hf.out.below hb).l.nums (hf'.out.below hb).l.nums (by have := hf.out.rle; simp only at this; omega) (by have := hf.out.lle; simp only at this; omega)
      clear hf hf'
      simp only at g0 g1 g2 g3 g4 g5 i0 i1 i2 i3 i4 i5
      go_wp2
      go_region_with (first | (go_at_call 83; refine (HQ.out _ ((Below.refl _ _).drew)).mono ?_; rintro e w2 ⟨rfl, hb2⟩; have HW2 : Hid (Below w.heap.size w w2) := below_tr hw.out (below_tr ((Below.refl _ _).drew) hb2); clear hb2))
      all_goals go_wp2
      all_goals exact ⟨⟨k + 1, by omega, by go_num, HW2.out⟩, by simp [intOf]; omega⟩
    · go_wp2
      go_ret
      exact ⟨rfl, hw.out⟩
set_option maxHeartbeats 2000000 in
theorem law_eqFabF (ra : Option Addr) (rl rc : Nat) (ea : Option Addr) (el ec : Nat) (ta : Option Addr) (tl tc : Nat) (ra' : Option Addr) (rc' : Nat) (ea' : Option Addr) (ec' : Nat) (ta' : Option Addr) (tc' : Nat) (now : Int) (rs rs' : List RD) (es : List Int) (ts ts' : List TD) (w : World)
    (h : FIn w ra rl ea el ta tl rs es ts) (h' : FIn w ra' rl ea' el ta' tl rs' es ts') (hr : rs.map RD.strip = rs'.map RD.strip) (ht : ts.map TD.strip = ts'.map TD.strip) :
    Calls Tryz.prog 13 #[fabVal ra rl rc ea el ec ta tl tc now, fabVal ra' rl rc' ea' el ec' ta' tl tc' now] w fun e w' => e = .returned (.bool true) ∧ Below w.heap.size w w' := by
  have e1 : (now != now) = false := by simp
  have H1 : Hid (FIn w ra rl ea el ta tl rs es ts) := h
  have H2 : Hid (FIn w ra' rl ea' el ta' tl rs' es ts') := h'
  have hrl := h.rle
  have hel := h.ele
  have htl := h.tle
  clear h h'
  have hB0 : Hid (Below w.heap.size w ((w.alloc (fabO ra rl rc ea el ec ta tl tc now)).alloc (fabO ra' rl rc' ea' el ec' ta' tl tc' now))) := ((Below.refl _ _).alloc (Nat.le_refl _) _).alloc (by simp) _
  go_enter Tryz.func13, Tryz.ntmps13
  go_wp2_with fail
  refine (law_eqRingsF ra ra' rl rc rc' rs rs' _ (H1.out.below hB0.out).rs (H2.out.below hB0.out).rs hr (by omega)).mono ?_
  rintro e w1 ⟨rfl, hb1⟩
  have hc1 := fun o => hb1.cell (p := ⟨w.heap.size, o, none⟩) (by simp only [World.size_alloc]; omega)
  have hc2 := fun o => hb1.cell (p := ⟨w.heap.size + 1, o, none⟩) (by simp only [World.size_alloc]; omega)
  have hz1 := hb1.size
  simp only [World.size_alloc] at hz1
  have hB1 : Hid (Below w.heap.size w w1) := below_tr hB0.out hb1
  clear hb1
  go_wp2_with fail
  refine (law_eqNums ea ea' el ec ec' es _ (H1.out.below hB1.out).es (H2.out.below hB1.out).es (by omega)).mono ?_
  rintro e w2 ⟨rfl, hb2⟩
  have hd1 := fun o => (hb2.cell (p := ⟨w.heap.size, o, none⟩) (show w.heap.size < _ by omega)).trans (hc1 o)
  have hd2 := fun o => (hb2.cell (p := ⟨w.heap.size + 1, o, none⟩) (show w.heap.size + 1 < _ by omega)).trans (hc2 o)
  have hz2 := hb2.size
  have hB2 : Hid (Below w.heap.size w w2) := below_tr hB1.out hb2
  clear hb2 hc1 hc2
  go_wp2_with fail
  refine (law_eqTxnsF ta ta' tl tc tc' ts ts' _ (H1.out.below hB2.out).ts (H2.out.below hB2.out).ts ht (by omega)).mono ?_
  rintro e w3 ⟨rfl, hb3⟩
  have hc1 := fun o => (hb3.cell (p := ⟨w.heap.size, o, none⟩) (show w.heap.size < _ by omega)).trans (hd1 o)
  have hc2 := fun o => (hb3.cell (p := ⟨w.heap.size + 1, o, none⟩) (show w.heap.size + 1 < _ by omega)).trans (hd2 o)
  have hB3 : Hid (Below w.heap.size w w3) := below_tr hB2.out hb3
  clear hb3 hd1 hd2
  go_wp2
  go_ret
  exact ⟨rfl, hB3.out⟩
end Go.Proofs.YtdepaeajfldfbaaGreatDoor
/- What is right of a fabric does not hang on where its lists lie. -/
namespace Go.Proofs.YtdepaeajfldfbaaGreatDoor
open Go.RowKit

theorem openAt_strip (ts : List TD) (k : Nat) (p : Int) : openAt (ts.map TD.strip) k p = openAt ts k p := by
  unfold openAt
  rw [← List.map_take, List.any_map]
  rfl
theorem openB_strip (ts : List TD) : openB (ts.map TD.strip) = openB ts := by
  unfold openB
  rw [List.length_map]
  congr 1
  funext j
  rw [List.getElem?_map]
  cases ts[j]? with
  | none => rfl
  | some t =>
    simp only [Option.map_some]
    rw [openAt_strip]
    rfl
theorem txnsFit_strip (es : List Int) (n : Nat) (now : Int) (ts : List TD) : txnsFitB es n now (ts.map TD.strip) = txnsFitB es n now ts := by
  unfold txnsFitB
  rw [openB_strip, List.all_map]
  rfl
theorem owedN_strip (ts : List TD) (k : Int) : owedN (ts.map TD.strip) k = owedN ts k := by
  unfold owedN
  rw [List.countP_map]
  rfl
theorem numFit_strip (ts : List TD) (k n : Int) : numFitB (ts.map TD.strip) k n = numFitB ts k n := by
  unfold numFitB
  rw [List.getElem?_map]
  cases ts[(n - 1).toNat]? <;> rfl
theorem ringFit_strip (ts : List TD) (k : Int) (r : RD) : ringFitB (ts.map TD.strip) k r.strip = ringFitB ts k r := by
  unfold ringFitB
  rw [owedN_strip]
  have e : recFitB (ts.map TD.strip) k = recFitB ts k := by
    funext s
    exact numFit_strip ts k _
  rw [e]
  rfl
theorem ringsFit_strip (ts : List TD) (rs : List RD) : ringsFitB (ts.map TD.strip) (rs.map RD.strip) = ringsFitB ts rs := by
  unfold ringsFitB
  rw [Bool.eq_iff_iff, decide_eq_true_iff, decide_eq_true_iff]
  constructor
  · intro h k hk _
    have h1 := h k (by rw [List.length_map]; exact hk) (by rw [List.length_map]; exact hk)
    rw [List.getElem_map, ringFit_strip] at h1
    exact h1
  · intro h k hk _
    have hk' : k < rs.length := by rwa [List.length_map] at hk
    rw [List.getElem_map, ringFit_strip]
    exact h k hk' hk'
theorem fab_strip (rs : List RD) (es : List Int) (ts : List TD) (now : Int) : fabRightB (rs.map RD.strip) es (ts.map TD.strip) now = fabRightB rs es ts now := by
  unfold fabRightB fabSizesB
  rw [ringsFit_strip, List.length_map, List.length_map, txnsFit_strip]
theorem fab_same {rs rs' : List RD} {ts ts' : List TD} (es : List Int) (now : Int) (hr : rs.map RD.strip = rs'.map RD.strip) (ht : ts.map TD.strip = ts'.map TD.strip) : fabRightB rs es ts now = fabRightB rs' es ts' now := by
  rw [← fab_strip rs es ts now, ← fab_strip rs' es ts' now, hr, ht]
theorem owed_same {ts ts' : List TD} (k : Int) (ht : ts.map TD.strip = ts'.map TD.strip) : owedN ts k = owedN ts' k := by
  rw [← owedN_strip ts, ← owedN_strip ts', ht]
theorem openOf_strip (ts : List TD) (p : Int) : openOf (ts.map TD.strip) p = openOf ts p := by
  unfold openOf
  rw [List.findIdx?_map]
  rfl
theorem openOf_same {ts ts' : List TD} (p : Int) (ht : ts.map TD.strip = ts'.map TD.strip) : openOf ts p = openOf ts' p := by
  rw [← openOf_strip ts, ← openOf_strip ts', ht]
end Go.Proofs.YtdepaeajfldfbaaGreatDoor
