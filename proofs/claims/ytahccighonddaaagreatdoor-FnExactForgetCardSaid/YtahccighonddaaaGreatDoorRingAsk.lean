import Derived.Test.YtahccighonddaaaGreatDoorRingWork6
import Derived.Test.YtahccighonddaaaGreatDoorRecBytes
import Derived.RangeFuncNested
import Derived.RangeFuncBound
import Derived.RangeFuncCalls
import Derived.RangeFuncLeaves
import Derived.Shelf.Abstract
import Derived.Shelf.RegionOpen
import Derived.WalkKit
import Derived.OwnWalkIn
import Derived.TacticsInMore
import Derived.LoopNIn
import Derived.LoopIn
import Derived.Test.YtahccighonddaaaGreatDoorRingMath
import Derived.Test.YtahccighonddaaaGreatDoorRingSpec1
namespace Go.Proofs.YtahccighonddaaaGreatDoor
open Go.RowKit Go.Shelf
attribute [local go_sem] Oper.semAt_some
variable {cap first : Int} {ra ca : Option Addr} {rl rc cl cc : Nat}
def recOf (s : ByteArray) : Int × Int × ByteArray := ((readRes s).1, (readRes s).2.1, (readRes s).2.2.1)
theorem readRes_cases (s : ByteArray) : (∃ c, c ≠ 0 ∧ readRes s = (0, 0, ⟨#[]⟩, c)) ∨ (∃ k t d, readRes s = (k, t, d, 0) ∧ recRightB k t d = true) := by
  unfold readRes
  split
  · exact .inl ⟨2, by omega, rfl⟩
  split
  · exact .inl ⟨4, by omega, rfl⟩
  split
  · exact .inl ⟨5, by omega, rfl⟩
  · rcases recOfRes_cases (s.extract 0 (s.size - 4)) with h | ⟨k, t, d, h, hr, hk⟩
    · rw [h]; exact .inl ⟨3, by omega, rfl⟩
    · rw [h]
      refine .inr ⟨k, t, d, ?_, hr⟩
      show (if k = 0 then _ else _) = _
      rw [if_neg hk]
theorem recOf_small (s : ByteArray) : (recOf s).2.2.size ≤ 16 := by
  unfold recOf
  rcases readRes_cases s with ⟨c, _, h⟩ | ⟨k, t, d, h, hr⟩
  · rw [h]; exact Nat.zero_le _
  · rw [h]
    simp [recRightB] at hr
    exact hr.1.2
abbrev PRec := { x : Int × Int × Int × ByteArray // x.2.2.2.size ≤ 16 }
abbrev encP (x : PRec) : Array Value := #[.int .i64 x.1.1, recV x.1.2.1 x.1.2.2.1 x.1.2.2.2]
def pRec (first : Int) (recs : List ByteArray) (j : Nat) : PRec := ⟨(first + (j : Int), recOf (recs.getD j ⟨#[]⟩)), recOf_small _⟩
def upto {α : Type} (f : Nat → α) (k : Nat) : List α := (List.range k).map f
theorem upto_succ {α : Type} (f : Nat → α) (k : Nat) : upto f (k + 1) = upto f k ++ [f k] := by simp [upto, List.range_succ]
theorem upto_length {α : Type} (f : Nat → α) (k : Nat) : (upto f k).length = k := by simp [upto]
theorem impl_recs (b : Nat) (w : World) :
    Calls Tryz.prog 209 #[.pointer (some ⟨b, 0, none⟩)] w fun e w' => e = .returned (.func (.func 232) #[] #[.pointer (some ⟨w.heap.size, 0, none⟩)]) ∧ w' = w.alloc (.cells #[.pointer (some ⟨b, 0, none⟩)] 155) := by
  have hmf : ∀ (fn : Fn) (first cap : Array Value) (w : World), (Instr.makeFunc fn first cap).run Tryz.prog w = .ok (.func fn first cap) w := fun _ _ _ _ => rfl
  go_enter Tryz.func209, Tryz.ntmps209
  go_wp2
  go_ret
  exact ⟨rfl, rfl⟩
theorem field_rec (k t : Int) (d : ByteArray) (c : Int) (w : World) : (Instr.field 164 (recOut k t d c) 0).run Tryz.prog w = .ok (recV k t d) w := by kernel_rfl
def Out (n₀ : Nat) (J Jx : List PRec → World → Prop) (pre : List PRec) (W : World) (v : Bool) (W' : World) : Prop := (v = true ∧ J pre W' ∧ Below n₀ W W') ∨ (v = false ∧ Jx pre W')
set_option maxRecDepth 100000 in
set_option maxHeartbeats 4000000 in
theorem recs_in (n l Bs n₀ b : Nat) (hn : 1 ≤ n) (d st lp : Int) (recs : List ByteArray) (J Jx : List PRec → World → Prop) (W : World) (hJ : AbidesFrom W.heap.size J)
    (hY : ∀ pre x W1, J pre W1 → pre.length < rl → YieldAt Fence.wide (n - 1) Tryz.prog l (encP x) W1 fun e W' =>
      (e = .returned (.bool true) ∧ J (pre ++ [x]) W' ∧ Below n₀ W1 W') ∨ (e = .returned (.bool false) ∧ Jx (pre ++ [x]) W'))
    (hn₀ : n₀ ≤ W.heap.size) (hBs : W.cell? ⟨Bs, 0, none⟩ = some (.pointer (some ⟨b, 0, none⟩))) (hBn : Bs < n₀) (hw : Work W b cap first ra rl rc ca cl cc d st lp) (hbn : b < n₀)
    (hr : Strs W ra rl recs) (hrn : ∀ x, ra = some x → x.block < n₀) (hs : ∀ s ∈ recs, s.size ≤ maxLen) (hTn : ∀ W', Below n₀ W W' → utabs W') (h : 0 ≤ first ∧ first ≤ 1000000) (hl : rl ≤ 1048576) (h0 : J [] W) :
    CallsIn Fence.wide n Tryz.prog 232 #[.func (.yield l) #[] #[], .pointer (some ⟨Bs, 0, none⟩)] W fun e W' => (∃ v, e = .returned v) ∧
      ((∃ ys, ys = upto (pRec first recs) rl ∧ J ys W') ∨ (∃ pre, (∃ k, k ≤ rl ∧ pre = upto (pRec first recs) k) ∧ Jx pre W')) := by
  obtain ⟨c0, c1, c2, c3, c4, c5, c6, c7⟩ := work_cells hw
  have HJ : Hid (AbidesFrom W.heap.size J) := hJ
  have HY : Hid _ := hY
  have HR : Hid (Strs W ra rl recs) := hr
  have HS : Hid (∀ s ∈ recs, s.size ≤ maxLen) := hs
  have HT : Hid (∀ W', Below n₀ W W' → utabs W') := hTn
  have H0 : Hid (J [] W) := h0
  have HL : Hid (recs.length = rl) := hr.1
  have HRN : Hid (∀ x, ra = some x → x.block < n₀) := hrn
  clear hY hr hs hTn h0 hJ hw hrn
  refine callsIn_of_wp Tryz.func232 rfl trivial ?_ rfl
  simp only [Tryz.ntmps232, List.size_toArray, List.length_cons, List.length_nil, Nat.reduceAdd, Nat.reduceSub, Array.replicate_succ, Array.replicate_zero, List.push_toArray, List.append_toArray, List.nil_append, List.cons_append]
  gi_wp2
  gi_loopw [11] (fun i wr => ∃ k : Nat, k ≤ rl ∧ i = .int .i64 k ∧ Hid (J (upto (pRec first recs) k) wr) ∧ Hid (Below n₀ W wr)) (fun i _ => rl - (intOf i).toNat)
  case atStart => exact ⟨0, Nat.zero_le _, rfl, H0.out, Below.refl _ _⟩
  case round =>
    obtain ⟨k, hk, rfl, hJs, hnx⟩ := hrel
    by_cases hlt : k < rl
    · have hkl : k < recs.length := by rw [HL.out]; exact hlt
      obtain ⟨bb, off, e, hc⟩ := HR.out.2 k hkl
      subst e
      have hbb : bb < n₀ := HRN.out _ rfl
      have hcx : wr.cell? ⟨bb, off + k, none⟩ = some (.string recs[k]) := (hnx.out.cell (p := ⟨bb, off + k, none⟩) hbb).trans hc
      have hx1 : wr.cell? ⟨Bs, 0, none⟩ = some (.pointer (some ⟨b, 0, none⟩)) := (hnx.out.cell (p := ⟨Bs, 0, none⟩) hBn).trans hBs
      have hx2 : wr.cell? ⟨b, 1, none⟩ = some (.int .i64 first) := (hnx.out.cell (p := ⟨b, 1, none⟩) hbn).trans c1
      have hm : recs[k].size ≤ maxLen := HS.out _ (List.getElem_mem hkl)
      have hg : recs.getD k ⟨#[]⟩ = recs[k] := by simp [hkl]
      have hp : pRec first recs k = ⟨(first + (k : Int), recOf recs[k]), recOf_small _⟩ := Subtype.ext (by show (first + (k : Int), recOf (recs.getD k ⟨#[]⟩)) = _; rw [hg])
      obtain ⟨s, es⟩ : ∃ s, recs[k] = s := ⟨_, rfl⟩
      rw [es] at hcx hm hp
      obtain ⟨R1, R2, R3, R4, eR⟩ : ∃ a b c d, readRes s = (a, b, c, d) := ⟨_, _, _, _, rfl⟩
      have HI : Hid (∀ w, utabs w → Calls Tryz.prog 233 #[.string s] w fun e w' => e = .returned (recOut R1 R2 R3 (R4 : Int)) ∧ Below w.heap.size w w') := fun w hT => by
        have h := impl_recRead s w hm hT
        rw [eR] at h
        exact h
      have hr3 : R3.size ≤ 16 := by have h := recOf_small s; simp [recOf, eR] at h; exact h
      have HP : Hid (pRec first recs k = ⟨(first + (k : Int), R1, R2, R3), hr3⟩) := show _ = _ by rw [hp]; simp [recOf, eR]
      have hsz : n₀ ≤ wr.heap.size := Nat.le_trans hn₀ hnx.out.size
      have HK : Hid (∀ W1, Below wr.heap.size wr W1 → J (upto (pRec first recs) k) W1) := fun W1 hb => HJ.out _ wr W1 none hJs.out (grown_of_below hb none) (fun r e => by cases e)
      have HY1 : Hid (∀ W1, Below wr.heap.size wr W1 → YieldAt Fence.wide (n - 1) Tryz.prog l #[.int .i64 (first + (k : Int)), recV R1 R2 R3] W1 fun e W' => ∃ v, e = .returned (.bool v) ∧ Out n₀ J Jx (upto (pRec first recs) (k + 1)) wr v W') := fun W1 hb => by
        obtain ⟨fn, tmps, assign, body, hy, hR⟩ := HY.out _ (pRec first recs k) W1 (HK.out W1 hb) (by rw [upto_length]; exact hlt)
        rw [HP.out] at hy
        refine ⟨fn, tmps, assign, body, hy, hR.mono ?_⟩
        rintro e W' (⟨rfl, hJ', hk'⟩ | ⟨rfl, hJ'⟩)
        · exact ⟨true, rfl, .inl ⟨rfl, by rw [upto_succ]; exact hJ', (hb.mono hsz).trans hk'⟩⟩
        · exact ⟨false, rfl, .inr ⟨rfl, by rw [upto_succ]; exact hJ'⟩⟩
      clear hp eR es hg hm
      have hwk : IntKind.i64.wrap (first + (k : Int)) = first + (k : Int) := i64_wrap_in _ (by omega) (by omega)
      have hfd := field_rec R1 R2 R3 (R4 : Int)
      have hmx : Tryz.prog.follows .mixedOrders = true := by kernel_rfl
      have hbw : b < wr.heap.size := by omega
      have hBw : Bs < wr.heap.size := by omega
      gi_wp2
      gi_region_with_o (first | (refine ⟨trivial, ?_⟩; gi_at_call 233; refine (callsIn_wide.2 (HI.out _ (HT.out _ hnx.out.drew))).mono ?_; rintro e w1 ⟨rfl, hb1⟩; have hx1 := (hb1.cell (p := ⟨Bs, 0, none⟩) hBw).trans hx1; have hx2 := (hb1.cell (p := ⟨b, 1, none⟩) hbw).trans hx2; obtain ⟨fn, tmps, assign, body, hy, hR⟩ := HY1.out w1 (below_tr ((Below.refl _ _).drew) hb1); clear hb1) | (refine RoundIn.mono hR ?_; rintro e W3 ⟨v, rfl, hv⟩))
      all_goals
        rcases hv with ⟨rfl, hJ', hk'⟩ | ⟨rfl, hJ'⟩
        · have HJ' : Hid _ := hJ'
          have HK' : Hid (Below n₀ W W3) := hnx.out.trans hk'
          clear hJ' hk'
          gi_wp2
          first | exact ⟨⟨k + 1, by omega, by go_num, HJ'.out, HK'.out⟩, by simp [intOf]; omega⟩ | (go_roundw; all_goals first | exact ⟨k + 1, by omega, by simp, HJ'.out, HK'.out⟩ | (simp [intOf]; omega))
        · have HJ' : Hid _ := hJ'
          clear hJ'
          gi_wp2
          refine bodyPost_ret (results_none rfl _ _ _) rfl ?_
          exact ⟨⟨_, rfl⟩, .inr ⟨_, ⟨k + 1, by omega, rfl⟩, HJ'.out⟩⟩
    · obtain rfl : k = rl := by omega
      gi_wp2
      go_end0
      exact ⟨⟨_, rfl⟩, .inl ⟨_, rfl, hJs.out⟩⟩
theorem recs_stops (n Bs n₀ b : Nat) (hn : 1 ≤ n) (d st lp : Int) (recs : List ByteArray) (w : World)
    (hn₀ : n₀ ≤ w.heap.size) (hBs : w.cell? ⟨Bs, 0, none⟩ = some (.pointer (some ⟨b, 0, none⟩))) (hBn : Bs < n₀) (hw : Work w b cap first ra rl rc ca cl cc d st lp) (hbn : b < n₀)
    (hr : Strs w ra rl recs) (hrn : ∀ x, ra = some x → x.block < n₀) (hs : ∀ s ∈ recs, s.size ≤ maxLen) (hTn : ∀ W', Below n₀ w W' → utabs W') (h : 0 ≤ first ∧ first ≤ 1000000) (hl : rl ≤ 1048576) :
    SeqStopsK Fence.wide n Tryz.prog 232 #[.pointer (some ⟨Bs, 0, none⟩)] encP (Below n₀) (fun ys => ys = upto (pRec first recs) rl) (fun pre => ∃ k, k ≤ rl ∧ pre = upto (pRec first recs) k) rl w := fun l J Jx W hW hJ _ hY h0 => by
  exact recs_in n l Bs n₀ b hn d st lp recs J Jx W hJ hY (Nat.le_trans hn₀ hW.size) ((hW.cell (p := ⟨Bs, 0, none⟩) (by show Bs < _; omega)).trans hBs) hBn (hw.below hW) hbn (strs_below hr hW) hrn hs (fun W' hb => hTn W' ((hW.mono hn₀).trans hb)) h hl h0
end Go.Proofs.YtahccighonddaaaGreatDoor
namespace Go.Proofs.YtahccighonddaaaGreatDoor
open Go.RowKit Go.Shelf
attribute [local go_sem] Oper.semAt_some
variable {cap first : Int} {ra ca : Option Addr} {rl rc cl cc : Nat}
def pRight (x : PRec) : Bool := recRightB x.1.2.1 x.1.2.2.1 x.1.2.2.2
theorem pRight_at (first : Int) (recs : List ByteArray) (j : Nat) (h : j < recs.length) : pRight (pRec first recs j) = recOkB recs[j] := by
  have hg : recs.getD j ⟨#[]⟩ = recs[j] := by simp [h]
  unfold pRight pRec recOkB
  simp only [hg]
  unfold recOf
  rcases readRes_cases recs[j] with ⟨c, hc, h⟩ | ⟨k, t, d, h, hr⟩
  · rw [h]; simp [recRightB, hc]
  · rw [h]; simp [hr]
theorem recsOk_yes (first : Int) (recs : List ByteArray) (h : ∀ y ∈ upto (pRec first recs) recs.length, pRight y = true) : recsOk recs = true := by
  unfold recsOk
  rw [List.all_eq_true]
  intro s hs
  obtain ⟨j, hj, rfl⟩ := List.getElem_of_mem hs
  rw [← pRight_at first recs j hj]
  exact h _ (by unfold upto; exact List.mem_map.2 ⟨j, List.mem_range.2 hj, rfl⟩)
theorem recsOk_no (first : Int) (recs : List ByteArray) (k : Nat) (hk : k ≤ recs.length) (h : ∃ y ∈ upto (pRec first recs) k, pRight y = false) : recsOk recs = false := by
  obtain ⟨y, hy, hf⟩ := h
  unfold upto at hy
  obtain ⟨j, hj, rfl⟩ := List.mem_map.1 hy
  have hj' : j < recs.length := by have := List.mem_range.1 hj; omega
  rw [pRight_at first recs j hj'] at hf
  unfold recsOk
  rw [List.all_eq_false]
  exact ⟨recs[j], List.getElem_mem hj', by simp [hf]⟩
theorem heap_own {W W' : World} {row : Option Nat} {B : Nat} {cs : Array Value} {t : TypeId} (h : W.heap[B]? = some (.cells cs t (0, 0))) (hg : W.grownBy W' row) (hr : ∀ r, row = some r → ∃ o : Obj, W.heap[r]? = some o ∧ o.isCells = false) : W'.heap[B]? = some (.cells cs t (0, 0)) := by
  refine (hg.block B (Array.getElem?_eq_some_iff.1 h).1 (fun e => ?_)).trans h
  obtain ⟨o, ho, hc⟩ := hr B e.symm
  rw [h] at ho
  cases ho
  simp [Obj.isCells] at hc
set_option maxRecDepth 100000 in
set_option maxHeartbeats 4000000 in
theorem impl_recsRight (b : Nat) (d st lp : Int) (recs : List ByteArray) (w : World) (hw : Work w b cap first ra rl rc ca cl cc d st lp) (hr : Strs w ra rl recs) (hrn : ∀ x, ra = some x → x.block < w.heap.size) (hs : ∀ s ∈ recs, s.size ≤ maxLen) (hT : utabs w) (h : 0 ≤ first ∧ first ≤ 1000000) (hl : rl ≤ 1048576) :
    Calls Tryz.prog 162 #[.pointer (some ⟨b, 0, none⟩)] w fun e w' => e = .returned (.bool (recsOk recs)) ∧ Below w.heap.size w w' := by
  have hlen : recs.length = rl := hr.1
  have hwb := hw.lt
  refine (callsIn_wide (n := 9)).1 ?_
  refine callsIn_of_wp_marks Tryz.func162 rfl trivial ?_ rfl
  simp only [Tryz.ntmps162, List.size_toArray, List.length_cons, List.length_nil, Nat.reduceAdd, Nat.reduceSub, Array.replicate_succ, Array.replicate_zero, List.push_toArray, List.append_toArray, List.nil_append, List.cons_append]
  gi_wp2_with (refine ⟨trivial, ?_⟩; gi_at_call 209; refine (callsIn_wide.2 (impl_recs b _)).mono ?_; rintro e w' ⟨rfl, rfl⟩)
  obtain ⟨w0, hw0⟩ : ∃ w0, (w.alloc (.cells #[.bool false] 4)).alloc (.cells #[.pointer (some ⟨b, 0, none⟩)] 155) = w0 := ⟨_, rfl⟩
  have hB0 : Below w.heap.size w w0 := by rw [← hw0]; exact ((Below.refl _ w).alloc (Nat.le_refl _) _).alloc (by simp) _
  have hsz : w0.heap.size = w.heap.size + 2 := by rw [← hw0]; simp
  have hcR : w0.heap[w.heap.size]? = some (.cells #[.bool false] 4 (0, 0)) := by
    rw [← hw0]
    exact (Below.heap_alloc _ _ _ (by simp)).trans (heap_alloc_new w _)
  have hcB : w0.cell? ⟨w.heap.size + 1, 0, none⟩ = some (.pointer (some ⟨b, 0, none⟩)) := by
    have h := heap_alloc_new (w.alloc (.cells #[.bool false] 4)) (.cells #[.pointer (some ⟨b, 0, none⟩)] 155)
    rw [World.size_alloc, hw0] at h
    exact cell_of_heap h 0
  rw [hw0]
  clear hw0
  have hTn : ∀ W', Below w.heap.size w W' → utabs W' := fun W' hb => utabs_below hT hb
  refine wpIn_rangeFunc_ownH rfl (by omega) (gf := 232) (lb := #[.pointer (some ⟨w.heap.size + 1, 0, none⟩)]) rfl trivial (enters_of Tryz.func232 (by kernel_rfl) rfl)
    (recs_stops _ (w.heap.size + 1) (w.heap.size + 2) b (by omega) d st lp recs w0 (by omega) hcB (by omega) (hw.below hB0) (by omega) (strs_below hr hB0) (fun x e => by have := hrn x e; omega) hs (fun W' hb => hTn W' (hB0.trans (hb.mono (by omega)))) h hl)
    belowK_t (belowK_b (by omega)) (Below.refl _ _) (fun _ => rfl)
    (fun pre W => ((∀ y ∈ pre, pRight y = true) ∧ w.heap.size + 2 ≤ W.heap.size ∧ W.heap[w.heap.size]? = some (.cells #[.bool false] 4 (0, 0))) ∧ Below w.heap.size w W)
    (fun c pre W => (c = .ret ∧ (∃ y ∈ pre, pRight y = false) ∧ W.heap[w.heap.size]? = some (.cells #[.bool false] 4 (0, 0))) ∧ Below w.heap.size w W)
    (OwnFrom.and (fun s A B row hs hg hr => ⟨hs.1, Nat.le_trans hs.2.1 hg.size, heap_own hs.2.2 hg (fun r e => (hr r e).2)⟩) (ownFrom_below (Nat.le_refl _) (by omega)))
    (fun c => OwnFrom.and (fun s A B row hs hg hr => ⟨hs.1, hs.2.1, heap_own hs.2.2 hg (fun r e => (hr r e).2)⟩) (ownFrom_below (Nat.le_refl _) (by omega)))
    ⟨⟨by simp, by omega, hcR⟩, hB0⟩
    (fun x a' W => ∃ Bx, w.heap.size + 2 ≤ Bx ∧ W.heap[Bx]? = some (.cells #[.int .i64 x.1.2.1, .int .i64 x.1.2.2.1, .string x.1.2.2.2] 65 (0, 0)) ∧ a' = { tmps := #[.pointer (some ⟨b, 0, none⟩), undef, .pointer (some ⟨w.heap.size, 0, none⟩), undef, .pointer (some ⟨Bx, 0, none⟩), .pointer (some ⟨b, 0, none⟩), .func (.func 232) #[] #[.pointer (some ⟨w.heap.size + 1, 0, none⟩)], .int .i64 x.1.1, recV x.1.2.1 x.1.2.2.1 x.1.2.2.2, undef, undef, undef], defers := [] })
    (fun x a' s A B row hs hg hr => by obtain ⟨Bx, h1, h2, h3⟩ := hs; exact ⟨Bx, h1, heap_own h2 hg (fun r e => (hr r e).2), h3⟩)
    ?assign ?body ?done ?stop
  case assign =>
    rintro l pre x W K ⟨⟨hp, hz, hc⟩, hB⟩ hK
    gi_wp2
    exact hK _ _ ((KeepsOthers.alloc _ _).from _) ((Below.refl _ W).alloc hz _) ⟨⟨hp, by simp; omega, (Below.heap_alloc _ _ _ (by omega)).trans hc⟩, hB.alloc (by omega) _⟩ ⟨W.heap.size, hz, heap_alloc_new _ _, rfl⟩
  case body =>
    rintro l pre ⟨⟨pl, k, t, dd⟩, hd⟩ a' W _ _ ⟨⟨hp, hz, hc⟩, hB⟩ ⟨Bx, hBx, hX, rfl⟩ _
    have x0 : W.cell? ⟨Bx, 0, none⟩ = some (.int .i64 k) := cell_of_heap hX 0
    have x1 : W.cell? ⟨Bx, 1, none⟩ = some (.int .i64 t) := cell_of_heap hX 1
    have x2 : W.cell? ⟨Bx, 2, none⟩ = some (.string dd) := cell_of_heap hX 2
    have hI : Hid (∀ w, utabs w → Calls Tryz.prog 200 #[recV k t dd] w fun e w' => e = .returned (.bool (recRightB k t dd)) ∧ Below w.heap.size w w') := fun w hT => impl_recRight k t dd w (by unfold maxLen; have : dd.size ≤ 16 := hd; omega) hT
    have HT : Hid (utabs W) := hTn W hB
    have HP : Hid (pRight ⟨(pl, k, t, dd), hd⟩ = recRightB k t dd) := rfl
    obtain ⟨R, hR⟩ : ∃ R, recRightB k t dd = R := ⟨_, rfl⟩
    rw [hR] at hI HP
    have h1 : 1 ≤ 9 - 1 - 1 := by omega
    clear hR
    cases R
    · have hf := frozen_of_heap hc 0
      have hcc : W.cell? ⟨w.heap.size, 0, none⟩ = some (.bool false) := cell_of_heap hc 0
      gi_wp2_with (refine ⟨trivial, ?_⟩; gi_at_call 200; refine (CallsIn.inRound l (callsIn_wide.2 (hI.out _ HT.out))).mono ?_; rintro e w1 ⟨rfl, hb1⟩; have hcc := (hb1.cell (p := ⟨w.heap.size, 0, none⟩) (by show w.heap.size < _; omega)).trans hcc; have hf := (hb1.frozen (p := ⟨w.heap.size, 0, none⟩) (by show w.heap.size < _; omega)).trans hf)
      exact ⟨(KeepsFrom.of_grownBy (grown_of_below hb1 none) (fun j e => by cases e)).trans ((KeepsOthers.setCell _ _ _).from _), ⟨rfl, ⟨_, List.mem_append.2 (.inr (List.mem_singleton.2 rfl)), HP.out⟩, heap_setCell_same _ _ 0 _ _ _ ((hb1.block _ (by omega)).trans hc)⟩, (below_tr hB hb1).setCell (p := ⟨w.heap.size, 0, none⟩) (Nat.le_refl _) _⟩
    · gi_wp2_with (refine ⟨trivial, ?_⟩; gi_at_call 200; refine (CallsIn.inRound l (callsIn_wide.2 (hI.out _ HT.out))).mono ?_; rintro e w1 ⟨rfl, hb1⟩)
      exact ⟨KeepsFrom.of_grownBy (grown_of_below hb1 none) (fun j e => by cases e), hb1.mono (by omega), ⟨fun y hy => by
        rcases List.mem_append.1 hy with hy | hy
        · exact hp y hy
        · rw [List.mem_singleton.1 hy]; exact HP.out, by have := hb1.size; omega, (hb1.block _ (by omega)).trans hc⟩, below_tr hB hb1⟩
  case done =>
    rintro D ys W hD rfl ⟨⟨hp, hz, hc⟩, hB⟩ hK
    have hcc : W.cell? ⟨w.heap.size, 0, none⟩ = some (.bool false) := cell_of_heap hc 0
    have hf := frozen_of_heap hc 0
    have hE : Hid (recsOk recs = true) := recsOk_yes first recs (by rw [hlen]; exact hp)
    gi_wp2
    have hK' := (KeepsOthers.setCell W ⟨w.heap.size, 0, none⟩ (.bool true)).same D _ hK rfl
    refine ⟨by simp, .inl ⟨_, _, rfl, run_takeDeferred hK', ?_⟩⟩
    have hc5 := cell_kept (World.cell?_setCell_same' W ⟨w.heap.size, 0, none⟩ (.bool true) (by rw [hcc]; rfl)) (grownBy_putObj' _ D (.deferred none)) (fun r e => by cases e; exact ⟨_, hK', rfl⟩)
    refine ⟨.bool true, ?_, by rw [hE.out], (hB.setCell (p := ⟨w.heap.size, 0, none⟩) (Nat.le_refl _) _).trans (belowK_b (w := w) (Nat.le_refl _) _ D _ _ (by omega) hK' rfl rfl)⟩
    simp [results, Tryz.results162, go_sem, hc5]
  case stop =>
    rintro D c pre W hD ⟨k, hk, rfl⟩ ⟨⟨rfl, hex, hc⟩, hB⟩ hK
    have hcc : W.cell? ⟨w.heap.size, 0, none⟩ = some (.bool false) := cell_of_heap hc 0
    have hE : Hid (recsOk recs = false) := recsOk_no first recs k (by rw [hlen]; exact hk) hex
    gi_wp2
    refine ⟨by simp, .inl ⟨_, _, rfl, run_takeDeferred hK, ?_⟩⟩
    have hc5 := cell_kept hcc (grownBy_putObj' _ D (.deferred none)) (fun r e => by cases e; exact ⟨_, hK, rfl⟩)
    refine ⟨.bool false, ?_, by rw [hE.out], hB.trans (belowK_b (w := w) (Nat.le_refl _) W D _ _ (by omega) hK rfl rfl)⟩
    simp [results, Tryz.results162, go_sem, hc5]
end Go.Proofs.YtahccighonddaaaGreatDoor
namespace Go.Proofs.YtahccighonddaaaGreatDoor
open Go.RowKit
variable {cap first : Int} {ra ca : Option Addr} {rl rc cl cc : Nat}
theorem cursOk_iff (first fin : Int) (l : List (Int × Int)) : ∀ p : Option Int, cursOk first fin p l = true ↔
    (∀ c ∈ l, (1 ≤ c.1 ∧ c.1 ≤ 9) ∧ (first ≤ c.2 ∧ c.2 ≤ fin)) ∧ (∀ q, p = some q → ∀ c, l.head? = some c → q < c.1) ∧ (∀ j, ∀ (h : j + 1 < l.length), l[j].1 < l[j + 1].1) := by
  induction l with
  | nil => intro p; simp [cursOk]
  | cons c r ih =>
    intro p
    have e : cursOk first fin p (c :: r) = (decide (1 ≤ c.1 ∧ c.1 ≤ 9) && decide (first ≤ c.2 ∧ c.2 ≤ fin) && (match p with | none => true | some q => decide (q < c.1)) && cursOk first fin (some c.1) r) := rfl
    rw [e]
    simp only [Bool.and_eq_true, decide_eq_true_eq, ih]
    constructor
    · rintro ⟨⟨⟨h1, h2⟩, h3⟩, h4, h5, h6⟩
      refine ⟨fun x hx => ?_, fun q hq x hx => ?_, fun j hj => ?_⟩
      · rcases List.mem_cons.1 hx with rfl | hx
        · exact ⟨h1, h2⟩
        · exact h4 x hx
      · subst hq
        simp at hx
        subst hx
        simpa using h3
      · cases j with
        | zero =>
          have hr0 : 0 < r.length := by simpa using hj
          have : r.head? = some (r[0]'hr0) := by rw [List.head?_eq_getElem?]; exact List.getElem?_eq_getElem hr0
          exact h5 c.1 rfl _ this
        | succ i => exact h6 i (by simpa using hj)
    · rintro ⟨h1, h2, h3⟩
      refine ⟨⟨⟨(h1 c (by simp)).1, (h1 c (by simp)).2⟩, ?_⟩, fun x hx => h1 x (by simp [hx]), fun q hq x hx => ?_, fun j hj => ?_⟩
      · cases p with
        | none => rfl
        | some q => simpa using h2 q rfl c rfl
      · cases hq
        cases r with
        | nil => simp at hx
        | cons y t =>
          simp at hx
          subst hx
          exact h3 0 (by simp)
      · exact h3 (j + 1) (by simpa using hj)
theorem foldl_min_le (l : List (Int × Int)) : ∀ n, l.foldl (fun n x => min n x.2) n ≤ n ∧ ∀ c ∈ l, l.foldl (fun n x => min n x.2) n ≤ c.2 := by
  induction l with
  | nil => intro n; simp
  | cons x r ih =>
    intro n
    have h := ih (min n x.2)
    refine ⟨?_, fun c hc => ?_⟩
    · have := h.1; simp only [List.foldl_cons]; omega
    · simp only [List.foldl_cons]
      rcases List.mem_cons.1 hc with rfl | hc
      · have := h.1; omega
      · exact h.2 c hc
theorem curLeast_le (first : Int) (l : List (Int × Int)) (c : Int × Int) (h : c ∈ l) : curLeast first l ≤ c.2 := by
  cases l with
  | nil => simp at h
  | cons x r => exact (foldl_min_le (x :: r) x.2).2 c h
theorem risesB_iff (l : List (Int × Int)) : risesB l = true ↔ ∀ j, ∀ (h : j + 1 < l.length), l[j].1 < l[j + 1].1 := by
  unfold risesB
  rw [decide_eq_true_eq]
  exact ⟨fun h j hj => h j (by omega) hj, fun h j _ hj => h j hj⟩
theorem curRight_eq (first fin : Int) (l : List (Int × Int)) : curRight first fin l = (cursOk first fin none l && decide (curLeast first l = first)) := by
  rw [Bool.eq_iff_iff]
  simp only [curRight, Bool.and_eq_true, decide_eq_true_eq, cursOk_iff, risesB_iff, List.all_eq_true, curIn]
  constructor
  · rintro ⟨⟨h1, h2⟩, h3⟩
    refine ⟨⟨fun c hc => ?_, fun q hq => by simp at hq, h2⟩, h3⟩
    have := curLeast_le first l c hc
    exact ⟨(h1 c hc).1, by omega, (h1 c hc).2⟩
  · rintro ⟨⟨h1, _, h2⟩, h3⟩
    exact ⟨⟨fun c hc => ⟨(h1 c hc).1, (h1 c hc).2.2⟩, h2⟩, h3⟩
theorem ringRight_eq (cap first : Int) (recs : List ByteArray) (curs : List (Int × Int)) : ringRightB cap first recs curs = (sizesB cap first recs.length curs.length && recsOk recs && curRight first (first + (recs.length : Int)) curs) := by
  rw [curRight_eq]
  simp only [ringRightB, sizesB, Bool.and_assoc]
theorem Still.refl {w : World} {b : Nat} {d l : Int} {curs : List (Int × Int)} (hw : Work w b cap first ra rl rc ca cl cc d 0 l) (hk : Known first curs d l) : Still w w b cap first ra rl rc ca cl cc curs := ⟨grown_of_below (Below.refl _ _) _, d, l, hw, hk⟩
theorem Still.below {w w1 : World} {b : Nat} {d l : Int} {curs : List (Int × Int)} (hb : Below w.heap.size w w1) (hw : Work w b cap first ra rl rc ca cl cc d 0 l) (hk : Known first curs d l) : Still w w1 b cap first ra rl rc ca cl cc curs := ⟨grown_of_below hb _, d, l, hw.below hb, hk⟩
structure Came (w : World) (n b : Nat) (ra : Option Addr) (rl : Nat) (ca : Option Addr) (cl : Nat) (recs : List ByteArray) (curs : List (Int × Int)) : Prop where
  strs : Strs w ra rl recs
  curs : Curs w ca cl curs
  rlt : ∀ x, ra = some x → x.block < n
  clt : ∀ x, ca = some x → x.block < n
  roff : Off b ra
  coff : Off b ca
  sz : ∀ s ∈ recs, s.size ≤ maxLen
  rle : rl ≤ 1048576
  cle : cl ≤ 1048576
theorem Came.below {w w' : World} {n b : Nat} {recs : List ByteArray} {curs : List (Int × Int)} (h : Came w n b ra rl ca cl recs curs) (hb : Below w.heap.size w w') : Came w' n b ra rl ca cl recs curs :=
  ⟨strs_below h.strs hb, curs_below h.curs hb, h.rlt, h.clt, h.roff, h.coff, h.sz, h.rle, h.cle⟩
theorem Came.grown {w w' : World} {n b : Nat} {recs : List ByteArray} {curs : List (Int × Int)} (h : Came w n b ra rl ca cl recs curs) (hg : w.grownBy w' (some b)) : Came w' n b ra rl ca cl recs curs :=
  ⟨strs_grown h.strs hg h.roff, curs_grown h.curs hg h.coff, h.rlt, h.clt, h.roff, h.coff, h.sz, h.rle, h.cle⟩
set_option maxRecDepth 100000 in
set_option maxHeartbeats 4000000 in
theorem impl_right (b : Nat) (d l : Int) (recs : List ByteArray) (curs : List (Int × Int)) (w : World) (hw : Work w b cap first ra rl rc ca cl cc d 0 l) (hk : Known first curs d l) (hC : Came w w.heap.size b ra rl ca cl recs curs) (hT : utabs w) :
    Calls Tryz.prog 108 #[.pointer (some ⟨b, 0, none⟩)] w fun e w' => e = .returned (.bool (ringRightB cap first recs curs)) ∧ Still w w' b cap first ra rl rc ca cl cc curs := by
  have hE : ringRightB cap first recs curs = (sizesB cap first rl cl && recsOk recs && curRight first (first + (rl : Int)) curs) := by rw [ringRight_eq, hC.strs.1, hC.curs.1]
  have HW : Hid (Work w b cap first ra rl rc ca cl cc d 0 l) := hw
  have HK : Hid (Known first curs d l) := hk
  have HC : Hid (Came w w.heap.size b ra rl ca cl recs curs) := hC
  have HT : Hid (utabs w) := hT
  have HS : Hid _ := fun (_ : Unit) => impl_sizesRight b d 0 l w hw hC.rle hC.cle
  have hfirst : sizesB cap first rl cl = true → 0 ≤ first ∧ first ≤ 1000000 := fun h => by simp [sizesB] at h; exact h.1.1.1.2
  clear hw hk hC hT
  cases h1 : sizesB cap first rl cl
  · rw [h1] at HS hE
    have HE : Hid (ringRightB cap first recs curs = false) := hE.trans (by simp)
    clear hE h1 hfirst
    go_enter Tryz.func108, Tryz.ntmps108
    go_wp2_with fail
    refine (HS.out ()).mono ?_
    rintro e w1 ⟨rfl, hb1⟩
    have hS : Hid (Still w w1 b cap first ra rl rc ca cl cc curs) := Still.below hb1 HW.out HK.out
    clear hb1
    go_wp2
    go_ret
    exact ⟨ret_bool HE.out.symm, hS.out⟩
  · rw [h1] at HS hE
    have hf := hfirst h1
    have HR : Hid _ := fun w hw hr hrn hT => impl_recsRight (cap := cap) (first := first) (ra := ra) (rl := rl) (rc := rc) (ca := ca) (cl := cl) (cc := cc) b d 0 l recs w hw hr hrn HC.out.sz hT hf HC.out.rle
    clear hfirst h1
    cases h2 : recsOk recs
    · rw [h2] at hE HR
      have HE : Hid (ringRightB cap first recs curs = false) := hE.trans (by simp)
      clear hE h2
      go_enter Tryz.func108, Tryz.ntmps108
      go_wp2_with fail
      refine (HS.out ()).mono ?_
      rintro e w1 ⟨rfl, hb1⟩
      have hB1 : Hid (Below w.heap.size w w1) := hb1
      clear hb1
      go_wp2_with fail
      refine (HR.out _ (HW.out.below hB1.out) (strs_below HC.out.strs hB1.out) (fun x e => Nat.lt_of_lt_of_le (HC.out.rlt x e) hB1.out.size) (utabs_below HT.out hB1.out)).mono ?_
      rintro e w2 ⟨rfl, hb2⟩
      have hS : Hid (Still w w2 b cap first ra rl rc ca cl cc curs) := Still.below (below_tr hB1.out hb2) HW.out HK.out
      clear hb2
      go_wp2
      go_ret
      exact ⟨ret_bool HE.out.symm, hS.out⟩
    · rw [h2] at hE HR
      have HE : Hid (ringRightB cap first recs curs = curRight first (first + (rl : Int)) curs) := hE.trans (by simp)
      clear hE h2
      go_enter Tryz.func108, Tryz.ntmps108
      go_wp2_with fail
      refine (HS.out ()).mono ?_
      rintro e w1 ⟨rfl, hb1⟩
      have hB1 : Hid (Below w.heap.size w w1) := hb1
      clear hb1
      go_wp2_with fail
      refine (HR.out _ (HW.out.below hB1.out) (strs_below HC.out.strs hB1.out) (fun x e => Nat.lt_of_lt_of_le (HC.out.rlt x e) hB1.out.size) (utabs_below HT.out hB1.out)).mono ?_
      rintro e w2 ⟨rfl, hb2⟩
      have hB2 : Hid (Below w.heap.size w w2) := below_tr hB1.out hb2
      clear hb2
      go_wp2_with fail
      refine (impl_cursorsRight b d l curs _ (HW.out.below hB2.out) HK.out (curs_below HC.out.curs hB2.out) HC.out.coff HC.out.cle hf HC.out.rle).mono ?_
      rintro e w3 ⟨rfl, hS3⟩
      have hS : Hid (Still w w3 b cap first ra rl rc ca cl cc curs) := ⟨(grown_of_below hB2.out _).trans hS3.1, hS3.2⟩
      clear hS3
      obtain ⟨C, hCC⟩ : ∃ C, curRight first (first + (rl : Int)) curs = C := ⟨_, rfl⟩
      rw [hCC] at HE ⊢
      go_wp2
      go_ret
      exact ⟨ret_bool HE.out.symm, hS.out⟩
end Go.Proofs.YtahccighonddaaaGreatDoor
namespace Go.Proofs.YtahccighonddaaaGreatDoor
open Go.RowKit
variable {cap first : Int} {ra ca : Option Addr} {rl rc cl cc : Nat}
structure RIn (w : World) (ra : Option Addr) (rl rc : Nat) (ca : Option Addr) (cl cc : Nat) (recs : List ByteArray) (curs : List (Int × Int)) : Prop where
  strs : Strs w ra rl recs
  curs : Curs w ca cl curs
  rlt : ∀ x, ra = some x → x.block < w.heap.size
  clt : ∀ x, ca = some x → x.block < w.heap.size
  rnil : ra = none → rl = 0 ∧ rc = 0
  cnil : ca = none → cl = 0 ∧ cc = 0
  sz : ∀ s ∈ recs, s.size ≤ 1048576
  rle : rl ≤ 1048576
  cle : cl ≤ 1048576
theorem RIn.below {w w' : World} {recs : List ByteArray} {curs : List (Int × Int)} (h : RIn w ra rl rc ca cl cc recs curs) (hb : Below w.heap.size w w') : RIn w' ra rl rc ca cl cc recs curs :=
  ⟨strs_below h.strs hb, curs_below h.curs hb, fun x e => Nat.lt_of_lt_of_le (h.rlt x e) hb.size, fun x e => Nat.lt_of_lt_of_le (h.clt x e) hb.size, h.rnil, h.cnil, h.sz, h.rle, h.cle⟩
theorem RIn.sz' {w : World} {recs : List ByteArray} {curs : List (Int × Int)} (h : RIn w ra rl rc ca cl cc recs curs) : ∀ s ∈ recs, s.size ≤ maxLen := fun s hs => by have := h.sz s hs; unfold maxLen; omega
theorem RIn.came {w w' : World} {b : Nat} {recs : List ByteArray} {curs : List (Int × Int)} (h : RIn w ra rl rc ca cl cc recs curs) (hb : Below w.heap.size w w') (hbb : w.heap.size ≤ b) : Came w' w'.heap.size b ra rl ca cl recs curs :=
  ⟨strs_below h.strs hb, curs_below h.curs hb, fun x e => Nat.lt_of_lt_of_le (h.rlt x e) hb.size, fun x e => Nat.lt_of_lt_of_le (h.clt x e) hb.size, fun x e => by have := h.rlt x e; omega, fun x e => by have := h.clt x e; omega, h.sz', h.rle, h.cle⟩
theorem below_grown_new {w u v : World} {b : Nat} (h : Below w.heap.size w u) (hg : u.grownBy v (some b)) (hb : w.heap.size ≤ b) : Below w.heap.size w v := h.grown hg h.size (fun k e => by cases e; exact hb)
structure Asked (w w' : World) (b : Nat) (cap first : Int) (ra : Option Addr) (rl rc : Nat) (ca : Option Addr) (cl cc : Nat) (curs : List (Int × Int)) : Prop where
  below : Below w.heap.size w w'
  new : w.heap.size ≤ b
  work : ∃ d l, Work w' b cap first ra rl rc ca cl cc d 0 l ∧ Known first curs d l
theorem impl_asked (recs : List ByteArray) (curs : List (Int × Int)) (b : Nat) (w w1 : World) (hi : RIn w ra rl rc ca cl cc recs curs) (hT : utabs w) (hB : Below w.heap.size w w1) (hb : w.heap.size ≤ b) (hw1 : Work w1 b cap first ra rl rc ca cl cc 0 0 0) :
    Calls Tryz.prog 108 #[.pointer (some ⟨b, 0, none⟩)] w1 fun e w' => e = .returned (.bool (ringRightB cap first recs curs)) ∧ Asked w w' b cap first ra rl rc ca cl cc curs ∧ w1.grownBy w' (some b) :=
  (impl_right _ 0 0 recs curs w1 hw1 (.inl rfl) (hi.came hB hb) (utabs_below hT hB)).mono (fun _ _ h => ⟨h.1, ⟨below_grown_new hB h.2.1 hb, hb, h.2.2⟩, h.2.1⟩)
set_option maxRecDepth 100000 in
set_option maxHeartbeats 400000 in
theorem impl_ringRight (recs : List ByteArray) (curs : List (Int × Int)) (w : World) (hi : RIn w ra rl rc ca cl cc recs curs) (hT : utabs w) :
    Calls Tryz.prog 189 #[ringV cap first ra rl rc ca cl cc] w fun e w' => e = .returned (.bool (ringRightB cap first recs curs)) ∧ Below w.heap.size w w' := by
  have HI : Hid (RIn w ra rl rc ca cl cc recs curs) := hi
  have HT : Hid (utabs w) := hT
  clear hi hT
  have hB0 : Hid (Below w.heap.size w (w.alloc (ringObj cap first ra rl rc ca cl cc))) := (Below.refl _ _).alloc (Nat.le_refl _) _
  go_enter Tryz.func189, Tryz.ntmps189
  go_wp2_with fail
  refine (impl_atWork _).mono ?_
  rintro e w1 ⟨rfl, hb1, hw1, hz1⟩
  obtain ⟨b, hb⟩ : ∃ b, (w.alloc (ringObj cap first ra rl rc ca cl cc)).heap.size + 1 = b := ⟨_, rfl⟩
  have hbb : w.heap.size ≤ b := by rw [← hb]; simp; omega
  rw [hb] at hw1 ⊢
  have HA : Hid _ := fun (_ : Unit) => impl_asked recs curs b w w1 HI.out HT.out (below_tr hB0.out hb1) hbb hw1
  clear hb1 hw1 hz1 hb
  obtain ⟨R, hR⟩ : ∃ R, ringRightB cap first recs curs = R := ⟨_, rfl⟩
  rw [hR] at HA
  have HR : Hid _ := hR
  clear hR
  go_wp2_with fail
  refine (HA.out ()).mono ?_
  rintro e w2 ⟨rfl, hA2, _⟩
  have hB2 : Hid (Below w.heap.size w w2) := hA2.below
  clear hA2
  go_wp2
  go_ret
  exact ⟨ret_bool HR.out.symm, hB2.out⟩
theorem right_first {recs : List ByteArray} {curs : List (Int × Int)} (h : ringRightB cap first recs curs = true) : (0 ≤ first ∧ first ≤ 1000000) ∧ (4 ≤ cap ∧ cap ≤ 16) ∧ (recs.length : Int) ≤ cap ∧ first + (recs.length : Int) ≤ 1000000 ∧ curs.length ≤ 4 := by
  rw [ringRight_eq] at h
  simp only [Bool.and_eq_true, sizesB, decide_eq_true_eq] at h
  exact ⟨h.1.1.1.1.1.2, capB_le h.1.1.1.1.1.1, h.1.1.1.1.2, h.1.1.1.2, h.1.1.2⟩
theorem spec_room (cap first : Int) (ra : Option Addr) (rl rc : Nat) (ca : Option Addr) (cl cc : Nat) (w : World) (h : 0 ≤ cap ∧ cap ≤ 1000000) (hl : rl ≤ 1048576) :
    Calls Tryz.prog 34 #[ringV cap first ra rl rc ca cl cc] w fun e w' => e = .returned (.int .i64 (cap - (rl : Int))) ∧ Below w.heap.size w w' := by
  go_enter Tryz.func34, Tryz.ntmps34
  go_wp2
  go_ret
  exact ⟨rfl, (Below.refl _ _).alloc (Nat.le_refl _) _⟩
end Go.Proofs.YtahccighonddaaaGreatDoor
