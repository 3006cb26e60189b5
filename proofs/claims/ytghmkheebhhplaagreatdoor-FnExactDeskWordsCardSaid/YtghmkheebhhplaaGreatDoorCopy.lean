/- Laws on copying a text's bytes into a row of the call's own; contracts for joinTexts and copyText. -/
import Derived.Test.YtghmkheebhhplaaGreatDoorBase
import Derived.Laws.CopyOwn
namespace Go.Proofs.YtghmkheebhhplaaGreatDoor
open Go.RowKit

/-- 'copy(dst, s)', s a text that fits, dst within the call's own row g from place 'off' on. -/
theorem run_copy_str {P : Program} (w : World) (dT sT ty elem : TypeId) (hu : P.underlying dT = some (.slice elem)) (hsz : (P.info? elem).map (·.size) = some 1)
    (dp : Option Addr) (dLen dCap : Nat) (str : ByteArray) (g off : Nat) (cur : List Value) (t : TypeId) (hg : w.heap[g]? = some (.cells cur.toArray t (0, 0))) (hle : str.size ≤ dLen)
    (hpos : 0 < str.size → dp = some ⟨g, off, none⟩) (hfit : off + str.size ≤ cur.length) (B : Nat) (w0 : World) (hb : Below B w0 w) (hBg : B ≤ g) :
    ∃ w', (Builtin.copy_ #[dT, sT] ty #[.slice dp dLen dCap, .string str]).run P w = .ok (goInt str.size) w' ∧
      Hid (w'.heap[g]? = some (.cells (splice cur off (str.data.toList.map bv)).toArray t (0, 0))) ∧ Hid (Below B w0 w') := by
  have hlen : (str.data.toList.map bv).length = str.size := by simp
  have hmin : Nat.min str.size dLen = str.size := Nat.min_eq_left hle
  cases hq : P.info? elem with
  | none => simp [hq] at hsz
  | some i =>
    by_cases h0 : str.size = 0
    · have he : str.data.toList = [] := List.eq_nil_of_length_eq_zero (by simpa using h0)
      refine ⟨w, ?_, show _ = _ by rw [he]; simpa [splice] using hg, hb⟩
      cases dp <;> simp [Builtin.copy_, run_underlying hu, Builtin.lenOf, Builtin.firstCells, sizeOf, typeInfo, hq, h0, storeCells]
    · have hdp := hpos (by omega)
      subst hdp
      have htk : List.take str.size (List.map (fun b : UInt8 => Value.int IntKind.u8 (b.toNat : Int)) str.data.toList) = str.data.toList.map bv := by
        rw [List.take_of_length_le (by simp)]
        rfl
      have hst := run_storeCells_at P g off t (str.data.toList.map bv) 0 cur.toArray w hg (by rw [hlen]; simpa using hfit) (bv_one _)
      rw [hlen] at hst
      simp only [Nat.add_zero] at hst
      refine ⟨w.setRow g (cur.take off ++ str.data.toList.map bv ++ cur.drop (off + str.size)).toArray, ?_, show _ = _ from ?_, below_setRow hb hBg _⟩
      · simp [Builtin.copy_, run_underlying hu, Builtin.lenOf, Builtin.firstCells, sizeOf, typeInfo, hq, hmin]
        rw [htk, hst]
        simp [Result.andThen]
      · rw [setRow_heap w g _ _ t _ hg]
        simp [splice, hlen]

/-- A row of the call's own, read as owned bytes. -/
theorem owns_of_row {w : World} {base g n : Nat} {e : TypeId} {l : List UInt8} {cur : List Value} (hb : base ≤ g) (hg : w.heap[g]? = some (.cells cur.toArray e (0, 0))) (hc : cur = l.map bv) (hn : l.length = n) (hm : n ≤ maxLen) :
    w.ownsRow base e 1 (.slice (some ⟨g, 0, none⟩) n n) l.length (l.map bv) := by
  subst hc hn
  exact ⟨by simp, .inr ⟨g, l.length, _, rfl, hb, hg, Nat.le_refl _, hm, by simp, List.take_of_length_le (by simp)⟩⟩

theorem splice_two {α : Type} (Z X Y : List α) (hZ : Z.length = X.length + Y.length) : splice (splice Z 0 X) X.length Y = X ++ Y := by
  have h : (Z.drop X.length).drop Y.length = [] := by rw [List.drop_drop]; exact List.drop_of_length_le (by omega)
  simp [splice, List.drop_append]
  omega

/-- 'make([]byte, n)'. -/
theorem mk_bytes (n : Nat) (x : Int) (hx : x = n) (hn : n ≤ 4194304) : ∃ Z : List Value, Hid (Z.length = n) ∧ ∀ u : World, (Instr.makeSlice 36 (.int .i64 x) (.int .i64 x)).run Tryz.prog u =
      .ok (.slice (some ⟨u.heap.size, 0, none⟩) n n) (u.alloc (.cells Z.toArray 5)) := by
  obtain ⟨i0, hi, hz0, hz1, hz2⟩ := info_parts info_u8
  subst hx
  refine ⟨(madeCells #[.int .u8 0] n).toList, show _ = _ by simp [madeCells], fun u => ?_⟩
  have h := run_make (P := Tryz.prog) u 36 5 i0 (.int .u8 0) Tryz.underlying36 hi hz0 .i64 .i64 (n : Int) (n : Int) (by omega) (Int.le_refl _) (by rw [hz2]; omega) (by omega)
  simpa [hz1, Value.cells] using h
theorem size1_u8 : (Tryz.prog.info? 5).map (·.size) = some 1 := by kernel_rfl

theorem run_copy_no {P : Program} (w : World) (dT sT ty elem : TypeId) (hu : P.underlying dT = some (.slice elem)) (hsz : (P.info? elem).map (·.size) = some 1) (dp : Option Addr) (dLen dCap : Nat) :
    (Builtin.copy_ #[dT, sT] ty #[.slice dp dLen dCap, .string ByteArray.empty]).run P w = .ok (goInt 0) w := by
  cases hq : P.info? elem with
  | none => simp [hq] at hsz
  | some i => cases dp <;> simp [Builtin.copy_, run_underlying hu, Builtin.lenOf, Builtin.firstCells, sizeOf, typeInfo, hq, storeCells]

set_option maxHeartbeats 1000000 in
theorem impl_joinTexts (f b : ByteArray) (w : World) (hs : f.size + b.size ≤ 1048576) :
    Calls Tryz.prog 205 #[.string f, .string b] w fun e w' => e = .returned (.string ⟨(f.data.toList ++ b.data.toList).toArray⟩) ∧ Below w.heap.size w w' := by
  by_cases hbe : b = ByteArray.empty
  · subst hbe
    have e0 : ByteArray.empty.size = 0 := rfl
    rw [e0] at hs
    obtain ⟨Z, hZ, hmk⟩ := mk_bytes f.size (f.size : Int) rfl (by omega)
    obtain ⟨w1, hc1, hg1, hb1⟩ := run_copy_str (P := Tryz.prog) (w.alloc (.cells Z.toArray 5)) 36 9 3 5 Tryz.underlying36 size1_u8 (some ⟨w.heap.size, 0, none⟩) f.size f.size f w.heap.size 0 Z 5 (heap_alloc_new w _) (by omega) (fun _ => rfl) (by rw [hZ.out]; omega) w.heap.size w ((Below.refl _ _).alloc (Nat.le_refl _) _) (Nat.le_refl _)
    have hc2 := fun dp dLen dCap => run_copy_no (P := Tryz.prog) w1 36 9 3 5 Tryz.underlying36 size1_u8 dp dLen dCap
    have hcur : splice Z 0 (f.data.toList.map bv) = f.data.toList.map bv := by
      simp [splice]; have := hZ.out; omega
    have hcv := conv_own (P := Tryz.prog) (dst := 9) Tryz.underlying36 Tryz.underlying5 Tryz.underlying9 (owns_of_row (n := f.size) (Nat.le_refl w.heap.size) hg1.out hcur (by simp) (by unfold maxLen; omega))
    clear hcur
    go_enter Tryz.func205, Tryz.ntmps205
    go_wp2
    go_ret
    exact ⟨by simp, hb1.out⟩
  obtain ⟨Z, hZ, hmk⟩ := mk_bytes (f.size + b.size) ((f.size : Int) + (b.size : Int)) (by omega) (by omega)
  obtain ⟨w1, hc1, hg1, hb1⟩ := run_copy_str (P := Tryz.prog) (w.alloc (.cells Z.toArray 5)) 36 9 3 5 Tryz.underlying36 size1_u8 (some ⟨w.heap.size, 0, none⟩) (f.size + b.size) (f.size + b.size) f w.heap.size 0 Z 5 (heap_alloc_new w _) (by omega) (fun _ => rfl) (by rw [hZ.out]; omega) w.heap.size w ((Below.refl _ _).alloc (Nat.le_refl _) _) (Nat.le_refl _)
  obtain ⟨w2, hc2, hg2, hb2⟩ := run_copy_str (P := Tryz.prog) w1 36 9 3 5 Tryz.underlying36 size1_u8 (some ⟨w.heap.size, f.size, none⟩) b.size b.size b w.heap.size f.size _ 5 hg1.out (by omega) (fun _ => rfl) (by rw [length_splice _ _ _ (by rw [hZ.out]; simp), hZ.out]; omega) w.heap.size w hb1.out (Nat.le_refl _)
  have hcur : splice (splice Z 0 (f.data.toList.map bv)) f.size (b.data.toList.map bv) = (f.data.toList ++ b.data.toList).map bv := by
    have h := splice_two Z (f.data.toList.map bv) (b.data.toList.map bv) (by rw [hZ.out]; simp)
    simpa using h
  have hcv := conv_own (P := Tryz.prog) (dst := 9) Tryz.underlying36 Tryz.underlying5 Tryz.underlying9 (owns_of_row (n := f.size + b.size) (Nat.le_refl w.heap.size) hg2.out hcur (by simp) (by unfold maxLen; omega))
  clear hcur
  go_enter Tryz.func205, Tryz.ntmps205
  go_wp2
  go_ret
  exact ⟨rfl, hb2.out⟩

set_option maxHeartbeats 1000000 in
theorem impl_copyText (f : ByteArray) (w : World) (hs : f.size ≤ 1048576) :
    Calls Tryz.prog 10 #[.string f] w fun e w' => e = .returned (.string f) ∧ Below w.heap.size w w' := by
  obtain ⟨Z, hZ, hmk⟩ := mk_bytes f.size (f.size : Int) rfl (by omega)
  obtain ⟨w1, hc1, hg1, hb1⟩ := run_copy_str (P := Tryz.prog) (w.alloc (.cells Z.toArray 5)) 36 9 3 5 Tryz.underlying36 size1_u8 (some ⟨w.heap.size, 0, none⟩) f.size f.size f w.heap.size 0 Z 5 (heap_alloc_new w _) (by omega) (fun _ => rfl) (by rw [hZ.out]; omega) w.heap.size w ((Below.refl _ _).alloc (Nat.le_refl _) _) (Nat.le_refl _)
  have hcur : splice Z 0 (f.data.toList.map bv) = f.data.toList.map bv := by
    simp [splice]; have := hZ.out; omega
  have hcv := conv_own (P := Tryz.prog) (dst := 9) Tryz.underlying36 Tryz.underlying5 Tryz.underlying9 (owns_of_row (n := f.size) (Nat.le_refl w.heap.size) hg1.out hcur (by simp) (by unfold maxLen; omega))
  clear hcur
  go_enter Tryz.func10, Tryz.ntmps10
  go_wp2
  go_ret
  exact ⟨rfl, hb1.out⟩
end Go.Proofs.YtghmkheebhhplaaGreatDoor
