/- A byte slice that came in, as bytes that can be read. -/
import Derived.Test.YtbbaghlmialaoaaGreatDoorDraws1
import Derived.OpenShut
namespace Go.Proofs.YtbbaghlmialaoaaGreatDoor
open Go.RowKit
theorem bytes_of_row {w : World} {a : Option Addr} {len cap : Nat} {zs : List Int} (h : IsRow .u8 w a len cap zs) : Bytes w.heap.size w a len := fun i hi => by
  rcases h with ⟨rfl, rfl, rfl, rfl⟩ | ⟨x, rfl, hl, hm, hz, hcell, hwz⟩
  · omega
  · obtain ⟨b, off, spot⟩ := x
    have hspot : spot = none := by simpa [Addr.add] using World.cell?_spot (hcell 0 (by omega))
    subst hspot
    have hc := hcell i (by omega)
    have hc' : w.cell? ⟨b, off + i, none⟩ = some (.int .u8 (zs.getD i 0)) := by
      by_cases e : i = 0
      · subst e; simpa [Addr.add] using hc
      · simpa [Addr.add, e] using hc
    have hmem : zs.getD i 0 ∈ zs := by
      rw [List.getD_eq_getElem?_getD, List.getElem?_eq_getElem (by omega)]
      exact List.getElem_mem _
    have hb := bounds_u8 (hwz _ hmem)
    obtain ⟨n, hn⟩ := Int.eq_ofNat_of_zero_le hb.1
    exact ⟨b, off, rfl, World.block_lt_of_cell? w ⟨b, off + i, none⟩ hc', n, by omega, by rw [hc', hn]⟩
theorem bytes_up {B C : Nat} {w : World} {a : Option Addr} {len : Nat} (h : Bytes B w a len) (hB : B ≤ C) : Bytes C w a len := fun i hi => by
  obtain ⟨b, off, e, hb, r⟩ := h i hi
  exact ⟨b, off, e, by omega, r⟩
end Go.Proofs.YtbbaghlmialaoaaGreatDoor
