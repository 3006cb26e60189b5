/- The decoder of runes by the library's contract, at this seat; its two tables. -/
import Derived.Test.YtblkbpgnhkjaaaaDoorBase
import Derived.Shelf.Unicode.DecodeAny
import Derived.Lib.LaidU8
import Derived.Lib.OthersKept
import Derived.PinnedBridge
namespace Go.Proofs.YtblkbpgnhkjaaaaDoor
open Go.RowKit Go.Shelf

def decRen : Ren := ⟨fun x => match x with
    | 197 => 65
    | 260 => 72
    | n => n, fun x => match x with
    | 0 => 0
    | 3 => 3
    | 4 => 4
    | 5 => 5
    | 9 => 9
    | 21 => 21
    | 46 => 83
    | 105 => 98
    | 119 => 119
    | 138 => 121
    | 139 => 122
    | n => n, fun x => match x with
    | 3 => 0
    | 4 => 1
    | n => n⟩
theorem decLays : Lays.n197 Tryd.prog decRen := {
  mixed := by kernel_rfl
  f197 := Tryd.func65.trans (congrArg some (by kernel_rfl))
  f260 := Tryd.func72.trans (congrArg some (by kernel_rfl))
  t0 := Tryd.underlying0
  a0 := Tryd.isAgg0
  z0 := Tryd.sizeOf0
  v0 := Tryd.zeroValue0
  t3 := Tryd.underlying3
  a3 := Tryd.isAgg3
  z3 := Tryd.sizeOf3
  v3 := Tryd.zeroValue3
  t4 := Tryd.underlying4
  a4 := Tryd.isAgg4
  z4 := Tryd.sizeOf4
  v4 := Tryd.zeroValue4
  t5 := Tryd.underlying5
  a5 := Tryd.isAgg5
  z5 := Tryd.sizeOf5
  v5 := Tryd.zeroValue5
  t9 := Tryd.underlying9
  a9 := Tryd.isAgg9
  z9 := Tryd.sizeOf9
  v9 := Tryd.zeroValue9
  t21 := Tryd.underlying21
  a21 := Tryd.isAgg21
  z21 := Tryd.sizeOf21
  v21 := Tryd.zeroValue21
  t46 := Tryd.underlying83
  a46 := Tryd.isAgg83
  z46 := Tryd.sizeOf83
  v46 := Tryd.zeroValue83
  t105 := Tryd.underlying98
  a105 := Tryd.isAgg98
  z105 := Tryd.sizeOf98
  v105 := Tryd.zeroValue98
  t119 := Tryd.underlying119
  a119 := Tryd.isAgg119
  z119 := Tryd.sizeOf119
  t138 := Tryd.underlying121
  a138 := Tryd.isAgg121
  z138 := Tryd.sizeOf121
  v138 := Tryd.zeroValue121
  t139 := Tryd.underlying122
  a139 := Tryd.isAgg122
  z139 := Tryd.sizeOf122
  v139 := Tryd.zeroValue122
  g3 := by kernel_rfl
  g4 := by kernel_rfl }
theorem decExtra : U8Extra Tryd.prog decRen := ⟨by kernel_rfl, by kernel_rfl, by kernel_rfl, by kernel_rfl, by kernel_rfl, by kernel_rfl, by kernel_rfl⟩
/-- The two tables stand as the library lays them. -/
def utabs (w : World) : Prop := Lib.Utf8Tabs 0 1 w
theorem utabs_lt {w : World} (h : utabs w) : 0 < w.heap.size ∧ 1 < w.heap.size :=
  ⟨World.block_lt_of_cell? w ⟨0, 0, none⟩ (h.1 0 (by omega)), World.block_lt_of_cell? w ⟨1, 0, none⟩ (h.2 0 (by omega)).1⟩
theorem utabs_below {w w' : World} (h : utabs w) (hb : Below w.heap.size w w') : utabs w' :=
  ⟨fun c hc => (hb.cell (p := ⟨_, c, none⟩) (utabs_lt h).1).trans (h.1 c hc), fun i hi => ⟨(hb.cell (p := ⟨_, 2 * i, none⟩) (utabs_lt h).2).trans (h.2 i hi).1, (hb.cell (p := ⟨_, 2 * i + 1, none⟩) (utabs_lt h).2).trans (h.2 i hi).2⟩⟩
theorem utabs_alloc {w : World} (h : utabs w) (o : Obj) : utabs (w.alloc o) := utabs_below h ((Below.refl _ _).alloc (Nat.le_refl _) _)
/-- DecodeRuneInString of what stands from place 'pos' on: the rune and its width, as a range over the text takes them. -/
theorem dec_extract (s : ByteArray) (pos : Nat) : Lib.decodeGo (s.extract pos s.size) = if pos < s.size then Utf8.decode s pos else (65533, 0) := by
  have hsz : (s.extract pos s.size).size = s.size - pos := by simp
  unfold Lib.decodeGo
  rw [hsz]
  by_cases h : pos < s.size
  · rw [if_neg (by omega), if_pos h, Lib.decode_at, Lib.decode_at s pos, hsz, Nat.sub_zero]
    have hg : ∀ i, (s.extract pos s.size).get! i = s.get! (pos + i) := by
      intro i
      by_cases hi : pos + i < s.size
      · rw [Utf8W.get!_of_lt _ _ (by omega), Utf8W.get!_of_lt _ _ hi]
        exact ByteArray.getElem_extract _
      · have e1 : (s.extract pos s.size).get! i = default := by
          show (s.extract pos s.size).data[i]! = _
          exact getElem!_neg _ _ (by show ¬ i < (s.extract pos s.size).size; omega)
        have e2 : s.get! (pos + i) = default := by
          show s.data[pos + i]! = _
          exact getElem!_neg _ _ (by show ¬ pos + i < s.size; omega)
        rw [e1, e2]
    rw [hg 0, hg (0 + 1), hg (0 + 2), hg (0 + 3)]
    rfl
  · rw [if_pos (by omega), if_neg h]
theorem dec_width (s : ByteArray) (pos : Nat) (h : pos < s.size) : 1 ≤ (Utf8.decode s pos).2 ∧ pos + (Utf8.decode s pos).2 ≤ s.size := by
  rw [Lib.decode_at]
  unfold Lib.decodeN
  constructor
  · repeat' split
    all_goals simp only; omega
  · repeat' split
    all_goals simp only; omega
theorem dec_run (s : ByteArray) (pos : Nat) (w : World) (h : pos < s.size) (hT : utabs w) :
    Calls Tryd.prog 65 #[.string (s.extract pos s.size)] w fun e w' => e = .returned (.tuple #[.int .i32 (Utf8.decode s pos).1, .int .i64 (Utf8.decode s pos).2]) ∧ Below w.heap.size w w' := by
  have c := Any.utf8_DecodeRuneInString decLays (s.extract pos s.size) w hT
  rw [dec_extract, if_pos h] at c
  exact c
end Go.Proofs.YtblkbpgnhkjaaaaDoor
