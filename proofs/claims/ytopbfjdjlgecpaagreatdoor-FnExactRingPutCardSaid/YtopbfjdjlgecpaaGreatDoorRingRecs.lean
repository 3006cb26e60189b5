import Derived.Test.YtopbfjdjlgecpaaGreatDoorRingWork6
import Derived.Test.YtopbfjdjlgecpaaGreatDoorRecRead2
import Derived.RangeFuncNested
import Derived.RangeFuncBound
import Derived.RangeFuncCalls
import Derived.RangeFuncLeaves
import Derived.Shelf.Abstract
import Derived.Shelf.RegionOpen
import Derived.WalkKit
import Derived.OwnWalkIn
import Derived.TacticsInMore
import Derived.LoopNIn
import Derived.LoopIn
import Derived.Test.YtopbfjdjlgecpaaGreatDoorRingMath
/- The places of a ring at work, gone through: the iterator's contract. -/
namespace Go.Proofs.YtopbfjdjlgecpaaGreatDoor
open Go.RowKit Go.Shelf
attribute [local go_sem] Oper.semAt_some
variable {cap first : Int} {ra ca : Option Addr} {rl rc cl cc : Nat}

/-- What RecRead gives of a text, beside its code. -/
def recOf (s : ByteArray) : Int × Int × ByteArray := ((readRes s).1, (readRes s).2.1, (readRes s).2.2.1)
theorem readRes_cases (s : ByteArray) : (∃ c, c ≠ 0 ∧ readRes s = (0, 0, ⟨#[]⟩, c)) ∨ (∃ k t d, readRes s = (k, t, d, 0) ∧ recRightB k t d = true) := by
  unfold readRes
  split
  · exact .inl ⟨2, by omega, rfl⟩
  split
  · exact .inl ⟨4, by omega, rfl⟩
  split
  · exact .inl ⟨5, by omega, rfl⟩
  · rcases recOfRes_cases (s.extract 0 (s.size - 4)) with h | ⟨k, t, d, h, hr, hk⟩
    · rw [h]; exact .inl ⟨3, by omega, rfl⟩
    · rw [h]
      refine .inr ⟨k, t, d, ?_, hr⟩
      show (if k = 0 then _ else _) = _
      rw [if_neg hk]
theorem recOf_small (s : ByteArray) : (recOf s).2.2.size ≤ 16 := by
  unfold recOf
  rcases readRes_cases s with ⟨c, _, h⟩ | ⟨k, t, d, h, hr⟩
  · rw [h]; exact Nat.zero_le _
  · rw [h]
    simp [recRightB] at hr
    exact hr.1.2
/-- A place and its record. -/
abbrev PRec := { x : Int × Int × Int × ByteArray // x.2.2.2.size ≤ 16 }
abbrev encP (x : PRec) : Array Value := #[.int .i64 x.1.1, recV x.1.2.1 x.1.2.2.1 x.1.2.2.2]
def pRec (first : Int) (recs : List ByteArray) (j : Nat) : PRec := ⟨(first + (j : Int), recOf (recs.getD j ⟨#[]⟩)), recOf_small _⟩
def upto {α : Type} (f : Nat → α) (k : Nat) : List α := (List.range k).map f
theorem upto_succ {α : Type} (f : Nat → α) (k : Nat) : upto f (k + 1) = upto f k ++ [f k] := by simp [upto, List.range_succ]
theorem upto_length {α : Type} (f : Nat → α) (k : Nat) : (upto f k).length = k := by simp [upto]

theorem impl_recs (b : Nat) (w : World) :
    Calls Tryz.prog 61 #[.pointer (some ⟨b, 0, none⟩)] w fun e w' => e = .returned (.func (.func 101) #[] #[.pointer (some ⟨w.heap.size, 0, none⟩)]) ∧ w' = w.alloc (.cells #[.pointer (some ⟨b, 0, none⟩)] 66) := by
  have hmf : ∀ (fn : Fn) (first cap : Array Value) (w : World), (Instr.makeFunc fn first cap).run Tryz.prog w = .ok (.func fn first cap) w := fun _ _ _ _ => rfl
  go_enter Tryz.func61, Tryz.ntmps61
  go_wp2
  go_ret
  exact ⟨rfl, rfl⟩
theorem field_rec (k t : Int) (d : ByteArray) (c : Int) (w : World) : (Instr.field 89 (recOut k t d c) 0).run Tryz.prog w = .ok (recV k t d) w := by kernel_rfl
/-- How a round ends: it goes on, or it has said no more. -/
def Out (n₀ : Nat) (J Jx : List PRec → World → Prop) (pre : List PRec) (W : World) (v : Bool) (W' : World) : Prop := (v = true ∧ J pre W' ∧ Below n₀ W W') ∨ (v = false ∧ Jx pre W')
set_option maxRecDepth 100000 in
set_option maxHeartbeats 4000000 in
theorem recs_in (n l Bs n₀ b : Nat) (hn : 1 ≤ n) (d st lp : Int) (recs : List ByteArray) (J Jx : List PRec → World → Prop) (W : World) (hJ : AbidesFrom W.heap.size J)
    (hY : ∀ pre x W1, J pre W1 → pre.length < rl → YieldAt Fence.wide (n - 1) Tryz.prog l (encP x) W1 fun e W' =>
      (e = .returned (.bool true) ∧ J (pre ++ [x]) W' ∧ Below n₀ W1 W') ∨ (e = .returned (.bool false) ∧ Jx (pre ++ [x]) W'))
    (hn₀ : n₀ ≤ W.heap.size) (hBs : W.cell? ⟨Bs, 0, none⟩ = some (.pointer (some ⟨b, 0, none⟩))) (hBn : Bs < n₀) (hw : Work W b cap first ra rl rc ca cl cc d st lp) (hbn : b < n₀)
    (hr : Strs W ra rl recs) (hrn : ∀ x, ra = some x → x.block < n₀) (hs : ∀ s ∈ recs, s.size ≤ maxLen) (hTn : ∀ W', Below n₀ W W' → utabs W') (h : 0 ≤ first ∧ first ≤ 1000000) (hl : rl ≤ 1048576) (h0 : J [] W) :
    CallsIn Fence.wide n Tryz.prog 101 #[.func (.yield l) #[] #[], .pointer (some ⟨Bs, 0, none⟩)] W fun e W' => (∃ v, e = .returned v) ∧
      ((∃ ys, ys = upto (pRec first recs) rl ∧ J ys W') ∨ (∃ pre, (∃ k, k ≤ rl ∧ pre = upto (pRec first recs) k) ∧ Jx pre W')) := by
  obtain ⟨c0, c1, c2, c3, c4, c5, c6, c7⟩ := work_cells hw
  have HJ : Hid (AbidesFrom W.heap.size J) := hJ
  have HY : Hid _ := hY
  have HR : Hid (Strs W ra rl recs) := hr
  have HS : Hid (∀ s ∈ recs, s.size ≤ maxLen) := hs
  have HT : Hid (∀ W', Below n₀ W W' → utabs W') := hTn
  have H0 : Hid (J [] W) := h0
  have HL : Hid (recs.length = rl) := hr.1
  have HRN : Hid (∀ x, ra = some x → x.block < n₀) := hrn
  clear hY hr hs hTn h0 hJ hw hrn
  refine callsIn_of_wp Tryz.func101 rfl trivial ?_ rfl
  simp only [Tryz.ntmps101, List.size_toArray, List.length_cons, List.length_nil, Nat.reduceAdd, Nat.reduceSub, Array.replicate_succ, Array.replicate_zero, List.push_toArray, List.append_toArray, List.nil_append, List.cons_append]
  gi_wp2
  gi_loopw [11] (fun i wr => ∃ k : Nat, k ≤ rl ∧ i = .int .i64 k ∧ Hid (J (upto (pRec first recs) k) wr) ∧ Hid (Below n₀ W wr)) (fun i _ => rl - (intOf i).toNat)
  case atStart => exact ⟨0, Nat.zero_le _, rfl, H0.out, Below.refl _ _⟩
  case round =>
    obtain ⟨k, hk, rfl, hJs, hnx⟩ := hrel
    by_cases hlt : k < rl
    · have hkl : k < recs.length := by rw [HL.out]; exact hlt
      obtain ⟨bb, off, e, hc⟩ := HR.out.2 k hkl
      subst e
      have hbb : bb < n₀ := HRN.out _ rfl
      have hcx : wr.cell? ⟨bb, off + k, none⟩ = some (.string recs[k]) := (hnx.out.cell (p := ⟨bb, off + k, none⟩) hbb).trans hc
      have hx1 : wr.cell? ⟨Bs, 0, none⟩ = some (.pointer (some ⟨b, 0, none⟩)) := (hnx.out.cell (p := ⟨Bs, 0, none⟩) hBn).trans hBs
      have hx2 : wr.cell? ⟨b, 1, none⟩ = some (.int .i64 first) := (hnx.out.cell (p := ⟨b, 1, none⟩) hbn).trans c1
      have hm : recs[k].size ≤ maxLen := HS.out _ (List.getElem_mem hkl)
      have hg : recs.getD k ⟨#[]⟩ = recs[k] := by simp [hkl]
      have hp : pRec first recs k = ⟨(first + (k : Int), recOf recs[k]), recOf_small _⟩ := Subtype.ext (by show (first + (k : Int), recOf (recs.getD k ⟨#[]⟩)) = _; rw [hg])
      obtain ⟨s, es⟩ : ∃ s, recs[k] = s := ⟨_, rfl⟩
      rw [es] at hcx hm hp
      obtain ⟨R1, R2, R3, R4, eR⟩ : ∃ a b c d, readRes s = (a, b, c, d) := ⟨_, _, _, _, rfl⟩
      have HI : Hid (∀ w, utabs w → Calls Tryz.prog 102 #[.string s] w fun e w' => e = .returned (recOut R1 R2 R3 (R4 : Int)) ∧ Below w.heap.size w w') := fun w hT => by
        have h := impl_recRead s w hm hT
        rw [eR] at h
        exact h
      have hr3 : R3.size ≤ 16 := by have h := recOf_small s; simp [recOf, eR] at h; exact h
      have HP : Hid (pRec first recs k = ⟨(first + (k : Int), R1, R2, R3), hr3⟩) := show _ = _ by rw [hp]; simp [recOf, eR]
      have hsz : n₀ ≤ wr.heap.size := Nat.le_trans hn₀ hnx.out.size
      have HK : Hid (∀ W1, Below wr.heap.size wr W1 → J (upto (pRec first recs) k) W1) := fun W1 hb => HJ.out _ wr W1 none hJs.out (grown_of_below hb none) (fun r e => by cases e)
      have HY1 : Hid (∀ W1, Below wr.heap.size wr W1 → YieldAt Fence.wide (n - 1) Tryz.prog l #[.int .i64 (first + (k : Int)), recV R1 R2 R3] W1 fun e W' => ∃ v, e = .returned (.bool v) ∧ Out n₀ J Jx (upto (pRec first recs) (k + 1)) wr v W') := fun W1 hb => by
        obtain ⟨fn, tmps, assign, body, hy, hR⟩ := HY.out _ (pRec first recs k) W1 (HK.out W1 hb) (by rw [upto_length]; exact hlt)
        rw [HP.out] at hy
        refine ⟨fn, tmps, assign, body, hy, hR.mono ?_⟩
        rintro e W' (⟨rfl, hJ', hk'⟩ | ⟨rfl, hJ'⟩)
        · exact ⟨true, rfl, .inl ⟨rfl, by rw [upto_succ]; exact hJ', (hb.mono hsz).trans hk'⟩⟩
        · exact ⟨false, rfl, .inr ⟨rfl, by rw [upto_succ]; exact hJ'⟩⟩
      clear hp eR es hg hm
      have hwk : IntKind.i64.wrap (first + (k : Int)) = first + (k : Int) := i64_wrap_in _ (by omega) (by omega)
      have hfd := field_rec R1 R2 R3 (R4 : Int)
      have hmx : Tryz.prog.follows .mixedOrders = true := by kernel_rfl
      have hbw : b < wr.heap.size := by omega
      have hBw : Bs < wr.heap.size := by omega
      gi_wp2
      gi_region_with_o (first | (refine ⟨trivial, ?_⟩; gi_at_call 102; refine (callsIn_wide.2 (HI.out _ (HT.out _ hnx.out.drew))).mono ?_; rintro e w1 ⟨rfl, hb1⟩; have hx1 := (hb1.cell (p := ⟨Bs, 0, none⟩) hBw).trans hx1; have hx2 := (hb1.cell (p := ⟨b, 1, none⟩) hbw).trans hx2; obtain ⟨fn, tmps, assign, body, hy, hR⟩ := HY1.out w1 (below_tr ((Below.refl _ _).drew) hb1); clear hb1) | (refine RoundIn.mono hR ?_; rintro e W3 ⟨v, rfl, hv⟩))
      all_goals
        rcases hv with ⟨rfl, hJ', hk'⟩ | ⟨rfl, hJ'⟩
        · have HJ' : Hid _ := hJ'
          have HK' : Hid (Below n₀ W W3) := hnx.out.trans hk'
          clear hJ' hk'
          gi_wp2
          first | exact ⟨⟨k + 1, by omega, by go_num, HJ'.out, HK'.out⟩, by simp [intOf]; omega⟩ | (go_roundw; all_goals first | exact ⟨k + 1, by omega, by simp, HJ'.out, HK'.out⟩ | (simp [intOf]; omega))
        · have HJ' : Hid _ := hJ'
          clear hJ'
          gi_wp2
          refine bodyPost_ret (results_none rfl _ _ _) rfl ?_
          exact ⟨⟨_, rfl⟩, .inr ⟨_, ⟨k + 1, by omega, rfl⟩, HJ'.out⟩⟩
    · obtain rfl : k = rl := by omega
      gi_wp2
      go_end0
      exact ⟨⟨_, rfl⟩, .inl ⟨_, rfl, hJs.out⟩⟩
/-- The closure gives all places in order, or the first of them. -/
theorem recs_stops (n Bs n₀ b : Nat) (hn : 1 ≤ n) (d st lp : Int) (recs : List ByteArray) (w : World)
    (hn₀ : n₀ ≤ w.heap.size) (hBs : w.cell? ⟨Bs, 0, none⟩ = some (.pointer (some ⟨b, 0, none⟩))) (hBn : Bs < n₀) (hw : Work w b cap first ra rl rc ca cl cc d st lp) (hbn : b < n₀)
    (hr : Strs w ra rl recs) (hrn : ∀ x, ra = some x → x.block < n₀) (hs : ∀ s ∈ recs, s.size ≤ maxLen) (hTn : ∀ W', Below n₀ w W' → utabs W') (h : 0 ≤ first ∧ first ≤ 1000000) (hl : rl ≤ 1048576) :
    SeqStopsK Fence.wide n Tryz.prog 101 #[.pointer (some ⟨Bs, 0, none⟩)] encP (Below n₀) (fun ys => ys = upto (pRec first recs) rl) (fun pre => ∃ k, k ≤ rl ∧ pre = upto (pRec first recs) k) rl w := fun l J Jx W hW hJ _ hY h0 => by
  exact recs_in n l Bs n₀ b hn d st lp recs J Jx W hJ hY (Nat.le_trans hn₀ hW.size) ((hW.cell (p := ⟨Bs, 0, none⟩) (by show Bs < _; omega)).trans hBs) hBn (hw.below hW) hbn (strs_below hr hW) hrn hs (fun W' hb => hTn W' ((hW.mono hn₀).trans hb)) h hl h0
end Go.Proofs.YtopbfjdjlgecpaaGreatDoor
/- A ring at work: whether its records are right. -/
namespace Go.Proofs.YtopbfjdjlgecpaaGreatDoor
open Go.RowKit Go.Shelf
attribute [local go_sem] Oper.semAt_some
variable {cap first : Int} {ra ca : Option Addr} {rl rc cl cc : Nat}

def pRight (x : PRec) : Bool := recRightB x.1.2.1 x.1.2.2.1 x.1.2.2.2
theorem pRight_at (first : Int) (recs : List ByteArray) (j : Nat) (h : j < recs.length) : pRight (pRec first recs j) = recOkB recs[j] := by
  have hg : recs.getD j ⟨#[]⟩ = recs[j] := by simp [h]
  unfold pRight pRec recOkB
  simp only [hg]
  unfold recOf
  rcases readRes_cases recs[j] with ⟨c, hc, h⟩ | ⟨k, t, d, h, hr⟩
  · rw [h]; simp [recRightB, hc]
  · rw [h]; simp [hr]
theorem recsOk_yes (first : Int) (recs : List ByteArray) (h : ∀ y ∈ upto (pRec first recs) recs.length, pRight y = true) : recsOk recs = true := by
  unfold recsOk
  rw [List.all_eq_true]
  intro s hs
  obtain ⟨j, hj, rfl⟩ := List.getElem_of_mem hs
  rw [← pRight_at first recs j hj]
  exact h _ (by unfold upto; exact List.mem_map.2 ⟨j, List.mem_range.2 hj, rfl⟩)
theorem recsOk_no (first : Int) (recs : List ByteArray) (k : Nat) (hk : k ≤ recs.length) (h : ∃ y ∈ upto (pRec first recs) k, pRight y = false) : recsOk recs = false := by
  obtain ⟨y, hy, hf⟩ := h
  unfold upto at hy
  obtain ⟨j, hj, rfl⟩ := List.mem_map.1 hy
  have hj' : j < recs.length := by have := List.mem_range.1 hj; omega
  rw [pRight_at first recs j hj'] at hf
  unfold recsOk
  rw [List.all_eq_false]
  exact ⟨recs[j], List.getElem_mem hj', by simp [hf]⟩
/-- A block of cells abides the loop's own book-keeping. -/
theorem heap_own {W W' : World} {row : Option Nat} {B : Nat} {cs : Array Value} {t : TypeId} (h : W.heap[B]? = some (.cells cs t (0, 0))) (hg : W.grownBy W' row) (hr : ∀ r, row = some r → ∃ o : Obj, W.heap[r]? = some o ∧ o.isCells = false) : W'.heap[B]? = some (.cells cs t (0, 0)) := by
  refine (hg.block B (Array.getElem?_eq_some_iff.1 h).1 (fun e => ?_)).trans h
  obtain ⟨o, ho, hc⟩ := hr B e.symm
  rw [h] at ho
  cases ho
  simp [Obj.isCells] at hc
set_option maxRecDepth 100000 in
set_option maxHeartbeats 4000000 in
theorem impl_recsRight (b : Nat) (d st lp : Int) (recs : List ByteArray) (w : World) (hw : Work w b cap first ra rl rc ca cl cc d st lp) (hr : Strs w ra rl recs) (hrn : ∀ x, ra = some x → x.block < w.heap.size) (hs : ∀ s ∈ recs, s.size ≤ maxLen) (hT : utabs w) (h : 0 ≤ first ∧ first ≤ 1000000) (hl : rl ≤ 1048576) :
    Calls Tryz.prog 89 #[.pointer (some ⟨b, 0, none⟩)] w fun e w' => e = .returned (.bool (recsOk recs)) ∧ Below w.heap.size w w' := by
  have hlen : recs.length = rl := hr.1
  have hwb := hw.lt
  refine (callsIn_wide (n := 9)).1 ?_
  refine callsIn_of_wp_marks Tryz.func89 rfl trivial ?_ rfl
  simp only [Tryz.ntmps89, List.size_toArray, List.length_cons, List.length_nil, Nat.reduceAdd, Nat.reduceSub, Array.replicate_succ, Array.replicate_zero, List.push_toArray, List.append_toArray, List.nil_append, List.cons_append]
  gi_wp2_with (refine ⟨trivial, ?_⟩; gi_at_call 61; refine (callsIn_wide.2 (impl_recs b _)).mono ?_; rintro e w' ⟨rfl, rfl⟩)
  obtain ⟨w0, hw0⟩ : ∃ w0, (w.alloc (.cells #[.bool false] 4)).alloc (.cells #[.pointer (some ⟨b, 0, none⟩)] 66) = w0 := ⟨_, rfl⟩
  have hB0 : Below w.heap.size w w0 := by rw [← hw0]; exact ((Below.refl _ w).alloc (Nat.le_refl _) _).alloc (by simp) _
  have hsz : w0.heap.size = w.heap.size + 2 := by rw [← hw0]; simp
  have hcR : w0.heap[w.heap.size]? = some (.cells #[.bool false] 4 (0, 0)) := by
    rw [← hw0]
    exact (Below.heap_alloc _ _ _ (by simp)).trans (heap_alloc_new w _)
  have hcB : w0.cell? ⟨w.heap.size + 1, 0, none⟩ = some (.pointer (some ⟨b, 0, none⟩)) := by
    have h := heap_alloc_new (w.alloc (.cells #[.bool false] 4)) (.cells #[.pointer (some ⟨b, 0, none⟩)] 66)
    rw [World.size_alloc, hw0] at h
    exact cell_of_heap h 0
  rw [hw0]
  clear hw0
  have hTn : ∀ W', Below w.heap.size w W' → utabs W' := fun W' hb => utabs_below hT hb
  refine wpIn_rangeFunc_ownH rfl (by omega) (gf := 101) (lb := #[.pointer (some ⟨w.heap.size + 1, 0, none⟩)]) rfl trivial (enters_of Tryz.func101 (by kernel_rfl) rfl)
    (recs_stops _ (w.heap.size + 1) (w.heap.size + 2) b (by omega) d st lp recs w0 (by omega) hcB (by omega) (hw.below hB0) (by omega) (strs_below hr hB0) (fun x e => by have := hrn x e; omega) hs (fun W' hb => hTn W' (hB0.trans (hb.mono (by omega)))) h hl)
    belowK_t (belowK_b (by omega)) (Below.refl _ _) (fun _ => rfl)
    (fun pre W => ((∀ y ∈ pre, pRight y = true) ∧ w.heap.size + 2 ≤ W.heap.size ∧ W.heap[w.heap.size]? = some (.cells #[.bool false] 4 (0, 0))) ∧ Below w.heap.size w W)
    (fun c pre W => (c = .ret ∧ (∃ y ∈ pre, pRight y = false) ∧ W.heap[w.heap.size]? = some (.cells #[.bool false] 4 (0, 0))) ∧ Below w.heap.size w W)
    (OwnFrom.and (fun s A B row hs hg hr => ⟨hs.1, Nat.le_trans hs.2.1 hg.size, heap_own hs.2.2 hg (fun r e => (hr r e).2)⟩) (ownFrom_below (Nat.le_refl _) (by omega)))
    (fun c => OwnFrom.and (fun s A B row hs hg hr => ⟨hs.1, hs.2.1, heap_own hs.2.2 hg (fun r e => (hr r e).2)⟩) (ownFrom_below (Nat.le_refl _) (by omega)))
    ⟨⟨by simp, by omega, hcR⟩, hB0⟩
    (fun x a' W => ∃ Bx, w.heap.size + 2 ≤ Bx ∧ W.heap[Bx]? = some (.cells #[.int .i64 x.1.2.1, .int .i64 x.1.2.2.1, .string x.1.2.2.2] 28 (0, 0)) ∧ a' = { tmps := #[.pointer (some ⟨b, 0, none⟩), undef, .pointer (some ⟨w.heap.size, 0, none⟩), undef, .pointer (some ⟨Bx, 0, none⟩), .pointer (some ⟨b, 0, none⟩), .func (.func 101) #[] #[.pointer (some ⟨w.heap.size + 1, 0, none⟩)], .int .i64 x.1.1, recV x.1.2.1 x.1.2.2.1 x.1.2.2.2, undef, undef, undef], defers := [] })
    (fun x a' s A B row hs hg hr => by obtain ⟨Bx, h1, h2, h3⟩ := hs; exact ⟨Bx, h1, heap_own h2 hg (fun r e => (hr r e).2), h3⟩)
    ?assign ?body ?done ?stop
  case assign =>
    rintro l pre x W K ⟨⟨hp, hz, hc⟩, hB⟩ hK
    gi_wp2
    exact hK _ _ ((KeepsOthers.alloc _ _).from _) ((Below.refl _ W).alloc hz _) ⟨⟨hp, by simp; omega, (Below.heap_alloc _ _ _ (by omega)).trans hc⟩, hB.alloc (by omega) _⟩ ⟨W.heap.size, hz, heap_alloc_new _ _, rfl⟩
  case body =>
    rintro l pre ⟨⟨pl, k, t, dd⟩, hd⟩ a' W _ _ ⟨⟨hp, hz, hc⟩, hB⟩ ⟨Bx, hBx, hX, rfl⟩ _
    have x0 : W.cell? ⟨Bx, 0, none⟩ = some (.int .i64 k) := cell_of_heap hX 0
    have x1 : W.cell? ⟨Bx, 1, none⟩ = some (.int .i64 t) := cell_of_heap hX 1
    have x2 : W.cell? ⟨Bx, 2, none⟩ = some (.string dd) := cell_of_heap hX 2
    have hI : Hid (∀ w, utabs w → Calls Tryz.prog 46 #[recV k t dd] w fun e w' => e = .returned (.bool (recRightB k t dd)) ∧ Below w.heap.size w w') := fun w hT => impl_recRight k t dd w (by unfold maxLen; have : dd.size ≤ 16 := hd; omega) hT
    have HT : Hid (utabs W) := hTn W hB
    have HP : Hid (pRight ⟨(pl, k, t, dd), hd⟩ = recRightB k t dd) := rfl
    obtain ⟨R, hR⟩ : ∃ R, recRightB k t dd = R := ⟨_, rfl⟩
    rw [hR] at hI HP
    have h1 : 1 ≤ 9 - 1 - 1 := by omega
    clear hR
    cases R
    · have hf := frozen_of_heap hc 0
      have hcc : W.cell? ⟨w.heap.size, 0, none⟩ = some (.bool false) := cell_of_heap hc 0
      gi_wp2_with (refine ⟨trivial, ?_⟩; gi_at_call 46; refine (CallsIn.inRound l (callsIn_wide.2 (hI.out _ HT.out))).mono ?_; rintro e w1 ⟨rfl, hb1⟩; have hcc := (hb1.cell (p := ⟨w.heap.size, 0, none⟩) (by show w.heap.size < _; omega)).trans hcc; have hf := (hb1.frozen (p := ⟨w.heap.size, 0, none⟩) (by show w.heap.size < _; omega)).trans hf)
      exact ⟨(KeepsFrom.of_grownBy (grown_of_below hb1 none) (fun j e => by cases e)).trans ((KeepsOthers.setCell _ _ _).from _), ⟨rfl, ⟨_, List.mem_append.2 (.inr (List.mem_singleton.2 rfl)), HP.out⟩, heap_setCell_same _ _ 0 _ _ _ ((hb1.block _ (by omega)).trans hc)⟩, (below_tr hB hb1).setCell (p := ⟨w.heap.size, 0, none⟩) (Nat.le_refl _) _⟩
    · gi_wp2_with (refine ⟨trivial, ?_⟩; gi_at_call 46; refine (CallsIn.inRound l (callsIn_wide.2 (hI.out _ HT.out))).mono ?_; rintro e w1 ⟨rfl, hb1⟩)
      exact ⟨KeepsFrom.of_grownBy (grown_of_below hb1 none) (fun j e => by cases e), hb1.mono (by omega), ⟨fun y hy => by
        rcases List.mem_append.1 hy with hy | hy
        · exact hp y hy
        · rw [List.mem_singleton.1 hy]; exact HP.out, by have := hb1.size; omega, (hb1.block _ (by omega)).trans hc⟩, below_tr hB hb1⟩
  case done =>
    rintro D ys W hD rfl ⟨⟨hp, hz, hc⟩, hB⟩ hK
    have hcc : W.cell? ⟨w.heap.size, 0, none⟩ = some (.bool false) := cell_of_heap hc 0
    have hf := frozen_of_heap hc 0
    have hE : Hid (recsOk recs = true) := recsOk_yes first recs (by rw [hlen]; exact hp)
    gi_wp2
    have hK' := (KeepsOthers.setCell W ⟨w.heap.size, 0, none⟩ (.bool true)).same D _ hK rfl
    refine ⟨by simp, .inl ⟨_, _, rfl, run_takeDeferred hK', ?_⟩⟩
    have hc5 := cell_kept (World.cell?_setCell_same' W ⟨w.heap.size, 0, none⟩ (.bool true) (by rw [hcc]; rfl)) (grownBy_putObj' _ D (.deferred none)) (fun r e => by cases e; exact ⟨_, hK', rfl⟩)
    refine ⟨.bool true, ?_, by rw [hE.out], (hB.setCell (p := ⟨w.heap.size, 0, none⟩) (Nat.le_refl _) _).trans (belowK_b (w := w) (Nat.le_refl _) _ D _ _ (by omega) hK' rfl rfl)⟩
    simp [results, Tryz.results89, go_sem, hc5]
  case stop =>
    rintro D c pre W hD ⟨k, hk, rfl⟩ ⟨⟨rfl, hex, hc⟩, hB⟩ hK
    have hcc : W.cell? ⟨w.heap.size, 0, none⟩ = some (.bool false) := cell_of_heap hc 0
    have hE : Hid (recsOk recs = false) := recsOk_no first recs k (by rw [hlen]; exact hk) hex
    gi_wp2
    refine ⟨by simp, .inl ⟨_, _, rfl, run_takeDeferred hK, ?_⟩⟩
    have hc5 := cell_kept hcc (grownBy_putObj' _ D (.deferred none)) (fun r e => by cases e; exact ⟨_, hK, rfl⟩)
    refine ⟨.bool false, ?_, by rw [hE.out], hB.trans (belowK_b (w := w) (Nat.le_refl _) W D _ _ (by omega) hK rfl rfl)⟩
    simp [results, Tryz.results89, go_sem, hc5]
end Go.Proofs.YtopbfjdjlgecpaaGreatDoor
