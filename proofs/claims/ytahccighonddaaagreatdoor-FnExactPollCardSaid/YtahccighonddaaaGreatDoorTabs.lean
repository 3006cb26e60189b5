import Derived.Test.YtahccighonddaaaGreatDoorTextOut
import Derived.Shelf.Unicode.DecodeAny
import Derived.Lib.LaidU8
import Derived.Lib.OthersKept
import Derived.PinnedBridge
namespace Go.Proofs.YtahccighonddaaaGreatDoor
open Go.RowKit Go.Shelf
def utabs (w : World) : Prop := Lib.Utf8Tabs 7 8 w
theorem utabs_lt {w : World} (h : utabs w) : 7 < w.heap.size ∧ 8 < w.heap.size :=
  ⟨World.block_lt_of_cell? w ⟨7,0,none⟩ (h.1 0 (by omega)),World.block_lt_of_cell? w ⟨8,0,none⟩ (h.2 0 (by omega)).1⟩
theorem utabs_below {w w' : World} (h : utabs w) (hb : Below w.heap.size w w') : utabs w' :=
  ⟨fun c hc => (hb.cell (p := ⟨_,c,none⟩) (utabs_lt h).1).trans (h.1 c hc),fun i hi => ⟨(hb.cell (p := ⟨_,2 * i,none⟩) (utabs_lt h).2).trans (h.2 i hi).1,(hb.cell (p := ⟨_,2 * i + 1,none⟩) (utabs_lt h).2).trans (h.2 i hi).2⟩⟩
theorem utabs_alloc {w : World} (h : utabs w) (o : Obj) : utabs (w.alloc o) := utabs_below h ((Below.refl _ _).alloc (Nat.le_refl _) _)
theorem dec_extract (s : ByteArray) (pos : Nat) : Lib.decodeGo (s.extract pos s.size) = if pos < s.size then Utf8.decode s pos else (65533,0) := by
  have hsz : (s.extract pos s.size).size = s.size - pos := by simp
  unfold Lib.decodeGo
  rw [hsz]
  by_cases h : pos < s.size
  · rw [if_neg (by omega),if_pos h,Lib.decode_at,Lib.decode_at s pos,hsz,Nat.sub_zero]
    have hg : ∀ i,(s.extract pos s.size).get! i = s.get! (pos + i) := by
      intro i
      by_cases hi : pos + i < s.size
      · rw [Utf8W.get!_of_lt _ _ (by omega),Utf8W.get!_of_lt _ _ hi]
        exact ByteArray.getElem_extract _
      · have e1 : (s.extract pos s.size).get! i = default := by
          show (s.extract pos s.size).data[i]! = _
          exact getElem!_neg _ _ (by show ¬ i < (s.extract pos s.size).size; omega)
        have e2 : s.get! (pos + i) = default := by
          show s.data[pos + i]! = _
          exact getElem!_neg _ _ (by show ¬ pos + i < s.size; omega)
        rw [e1,e2]
    rw [hg 0,hg (0 + 1),hg (0 + 2),hg (0 + 3)]
    rfl
  · rw [if_pos (by omega),if_neg h]
theorem dec_width (s : ByteArray) (pos : Nat) (h : pos < s.size) : 1 ≤ (Utf8.decode s pos).2 ∧ pos + (Utf8.decode s pos).2 ≤ s.size := by
  rw [Lib.decode_at]
  unfold Lib.decodeN
  constructor
  · repeat' split
    all_goals simp only; omega
  · repeat' split
    all_goals simp only; omega
end Go.Proofs.YtahccighonddaaaGreatDoor
namespace Go.Proofs.YtahccighonddaaaGreatDoor
def rowOf (cs : Array Value) : Obj → Obj
  | .cells _ t frozen => .cells cs t frozen
  | o => o
def withTabs (w : World) : World :=
  { w with heap := (w.heap.modify 7 (rowOf (Lib.firstTab.map fun z => Value.int .u8 z).toArray)).modify 8 (rowOf ((List.range 16).flatMap fun i => [Value.int .u8 (Lib.accLo i : Nat),Value.int .u8 (Lib.accHi i : Nat)]).toArray) }
end Go.Proofs.YtahccighonddaaaGreatDoor
