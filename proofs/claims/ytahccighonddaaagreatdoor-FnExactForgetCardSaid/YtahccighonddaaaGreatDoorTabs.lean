import Derived.Test.YtahccighonddaaaGreatDoorTextOut
import Derived.Shelf.Unicode.DecodeAny
import Derived.Lib.LaidU8
import Derived.Lib.OthersKept
import Derived.PinnedBridge
namespace Go.Proofs.YtahccighonddaaaGreatDoor
open Go.RowKit Go.Shelf
def decRen : Ren := ⟨fun x => match x with
    | 197 => 90
    | 260 => 141
    | n => n, fun x => match x with
    | 0 => 0
    | 3 => 3
    | 4 => 4
    | 5 => 5
    | 9 => 9
    | 21 => 21
    | 46 => 242
    | 105 => 122
    | 119 => 241
    | 138 => 244
    | 139 => 245
    | n => n, fun x => match x with
    | 3 => 7
    | 4 => 8
    | n => n⟩
theorem decLays : Lays.n197 Tryz.prog decRen := {
  mixed := by kernel_rfl
  f197 := Tryz.func90.trans (congrArg some (by kernel_rfl))
  f260 := Tryz.func141.trans (congrArg some (by kernel_rfl))
  t0 := Tryz.underlying0
  a0 := Tryz.isAgg0
  z0 := Tryz.sizeOf0
  v0 := Tryz.zeroValue0
  t3 := Tryz.underlying3
  a3 := Tryz.isAgg3
  z3 := Tryz.sizeOf3
  v3 := Tryz.zeroValue3
  t4 := Tryz.underlying4
  a4 := Tryz.isAgg4
  z4 := Tryz.sizeOf4
  v4 := Tryz.zeroValue4
  t5 := Tryz.underlying5
  a5 := Tryz.isAgg5
  z5 := Tryz.sizeOf5
  v5 := Tryz.zeroValue5
  t9 := Tryz.underlying9
  a9 := Tryz.isAgg9
  z9 := Tryz.sizeOf9
  v9 := Tryz.zeroValue9
  t21 := Tryz.underlying21
  a21 := Tryz.isAgg21
  z21 := Tryz.sizeOf21
  v21 := Tryz.zeroValue21
  t46 := Tryz.underlying242
  a46 := Tryz.isAgg242
  z46 := Tryz.sizeOf242
  v46 := Tryz.zeroValue242
  t105 := Tryz.underlying122
  a105 := Tryz.isAgg122
  z105 := Tryz.sizeOf122
  v105 := Tryz.zeroValue122
  t119 := Tryz.underlying241
  a119 := Tryz.isAgg241
  z119 := Tryz.sizeOf241
  t138 := Tryz.underlying244
  a138 := Tryz.isAgg244
  z138 := Tryz.sizeOf244
  v138 := Tryz.zeroValue244
  t139 := Tryz.underlying245
  a139 := Tryz.isAgg245
  z139 := Tryz.sizeOf245
  v139 := Tryz.zeroValue245
  g3 := by kernel_rfl
  g4 := by kernel_rfl }
theorem decExtra : U8Extra Tryz.prog decRen := ⟨by kernel_rfl, by kernel_rfl, by kernel_rfl, by kernel_rfl, by kernel_rfl, by kernel_rfl, by kernel_rfl⟩
def utabs (w : World) : Prop := Lib.Utf8Tabs 7 8 w
theorem utabs_lt {w : World} (h : utabs w) : 7 < w.heap.size ∧ 8 < w.heap.size :=
  ⟨World.block_lt_of_cell? w ⟨7, 0, none⟩ (h.1 0 (by omega)), World.block_lt_of_cell? w ⟨8, 0, none⟩ (h.2 0 (by omega)).1⟩
theorem utabs_below {w w' : World} (h : utabs w) (hb : Below w.heap.size w w') : utabs w' :=
  ⟨fun c hc => (hb.cell (p := ⟨_, c, none⟩) (utabs_lt h).1).trans (h.1 c hc), fun i hi => ⟨(hb.cell (p := ⟨_, 2 * i, none⟩) (utabs_lt h).2).trans (h.2 i hi).1, (hb.cell (p := ⟨_, 2 * i + 1, none⟩) (utabs_lt h).2).trans (h.2 i hi).2⟩⟩
theorem utabs_alloc {w : World} (h : utabs w) (o : Obj) : utabs (w.alloc o) := utabs_below h ((Below.refl _ _).alloc (Nat.le_refl _) _)
theorem dec_extract (s : ByteArray) (pos : Nat) : Lib.decodeGo (s.extract pos s.size) = if pos < s.size then Utf8.decode s pos else (65533, 0) := by
  have hsz : (s.extract pos s.size).size = s.size - pos := by simp
  unfold Lib.decodeGo
  rw [hsz]
  by_cases h : pos < s.size
  · rw [if_neg (by omega), if_pos h, Lib.decode_at, Lib.decode_at s pos, hsz, Nat.sub_zero]
    have hg : ∀ i, (s.extract pos s.size).get! i = s.get! (pos + i) := by
      intro i
      by_cases hi : pos + i < s.size
      · rw [Utf8W.get!_of_lt _ _ (by omega), Utf8W.get!_of_lt _ _ hi]
        exact ByteArray.getElem_extract _
      · have e1 : (s.extract pos s.size).get! i = default := by
          show (s.extract pos s.size).data[i]! = _
          exact getElem!_neg _ _ (by show ¬ i < (s.extract pos s.size).size; omega)
        have e2 : s.get! (pos + i) = default := by
          show s.data[pos + i]! = _
          exact getElem!_neg _ _ (by show ¬ pos + i < s.size; omega)
        rw [e1, e2]
    rw [hg 0, hg (0 + 1), hg (0 + 2), hg (0 + 3)]
    rfl
  · rw [if_pos (by omega), if_neg h]
theorem dec_width (s : ByteArray) (pos : Nat) (h : pos < s.size) : 1 ≤ (Utf8.decode s pos).2 ∧ pos + (Utf8.decode s pos).2 ≤ s.size := by
  rw [Lib.decode_at]
  unfold Lib.decodeN
  constructor
  · repeat' split
    all_goals simp only; omega
  · repeat' split
    all_goals simp only; omega
theorem dec_run (s : ByteArray) (pos : Nat) (w : World) (h : pos < s.size) (hT : utabs w) :
    Calls Tryz.prog 90 #[.string (s.extract pos s.size)] w fun e w' => e = .returned (.tuple #[.int .i32 (Utf8.decode s pos).1, .int .i64 (Utf8.decode s pos).2]) ∧ Below w.heap.size w w' := by
  have c := Any.utf8_DecodeRuneInString decLays (s.extract pos s.size) w hT
  rw [dec_extract, if_pos h] at c
  exact c
end Go.Proofs.YtahccighonddaaaGreatDoor
namespace Go.Proofs.YtahccighonddaaaGreatDoor
def rowOf (cs : Array Value) : Obj → Obj
  | .cells _ t frozen => .cells cs t frozen
  | o => o
def withTabs (w : World) : World :=
  { w with heap := (w.heap.modify 7 (rowOf (Lib.firstTab.map fun z => Value.int .u8 z).toArray)).modify 8 (rowOf ((List.range 16).flatMap fun i => [Value.int .u8 (Lib.accLo i : Nat), Value.int .u8 (Lib.accHi i : Nat)]).toArray) }
end Go.Proofs.YtahccighonddaaaGreatDoor
