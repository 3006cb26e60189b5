/- The source of draws: contracts for l01Source and its methods, as far as the laws need them: each number is in its range, and only the source's own block is written. -/
import Derived.Test.YtdepaeajfldfbaaGreatDoorTextOut
import Derived.RegionTactic
import Derived.BigRegion
import Derived.Laws.BitsAllLaws
namespace Go.Proofs.YtdepaeajfldfbaaGreatDoor
open Go.RowKit

/-- A slice of integers that came in: nil, or a row of 'cap' cells, the numbers zs. -/
def IsRow (k : IntKind) (w : World) (a : Option Addr) (len cap : Nat) (zs : List Int) : Prop :=
  (a = none ∧ len = 0 ∧ cap = 0 ∧ zs = []) ∨
  ∃ x, a = some x ∧ len ≤ cap ∧ cap ≤ maxLen ∧ zs.length = cap ∧ (∀ i, i < zs.length → w.cell? (x.add i) = some (.int k (zs.getD i 0))) ∧ ∀ n ∈ zs, (Lit.int k n).wf = true

/-- The bytes of such a slice can be read: each is a cell below block B. -/
def Bytes (B : Nat) (w : World) (a : Option Addr) (len : Nat) : Prop :=
  ∀ i, i < len → ∃ b off, a = some ⟨b, off, none⟩ ∧ b < B ∧ ∃ n : Nat, n < 256 ∧ w.cell? ⟨b, off + i, none⟩ = some (.int .u8 n)
theorem cell_of_heap {w : World} {g : Nat} {C : Array Value} {t : TypeId} (h : w.heap[g]? = some (.cells C t (0, 0))) (o : Nat) : w.cell? ⟨g, o, none⟩ = C[o]? := by
  simp [World.cell?, h]
theorem frozen_of_heap {w : World} {g : Nat} {C : Array Value} {t : TypeId} (h : w.heap[g]? = some (.cells C t (0, 0))) (o : Nat) : w.frozen? ⟨g, o, none⟩ = false := by
  simp [World.frozen?, h]

/-- A cell written twice. -/
theorem set_set (w : World) (g o : Nat) (v u : Value) : (w.setCell ⟨g, o, none⟩ v).setCell ⟨g, o, none⟩ u = w.setCell ⟨g, o, none⟩ u := by
  have h : ∀ (H : Array Obj) (f f' : Obj → Obj), (∀ x, f' (f x) = f' x) → (H.modify g f).modify g f' = H.modify g f' := by
    intro H f f' hff
    apply Array.ext
    · simp
    · intro i h1 h2
      simp only [Array.getElem_modify]
      split <;> simp_all
  simp only [World.setCell]
  congr 1
  apply h
  intro x
  cases x <;> simp
theorem draw_fin (x m most : Nat) (hx : x < 256) (hm : m < 18446744073709551616) (h1 : 1 < most) (h2 : most ≤ 1099511627776) :
    wrap64 ((IntKind.u64.wrap ((x : Int) + (m : Int) / 1048576)).tmod (most : Int)) = (((x + m / 1048576) % most : Nat) : Int) := by
  have e : IntKind.u64.wrap ((x : Int) + (m : Int) / 1048576) = ((x + m / 1048576 : Nat) : Int) := by rw [IntKind.wrap_u64]; omega
  rw [e, Int.tmod_eq_emod_of_nonneg (by omega)]
  have hlt : (x + m / 1048576) % most < most := Nat.mod_lt _ (by omega)
  have e2 : ((x + m / 1048576 : Nat) : Int) % (most : Int) = (((x + m / 1048576) % most : Nat) : Int) := by simp
  rw [e2]
  unfold wrap64
  omega
theorem draw_fin0 (m most : Nat) (hm : m < 18446744073709551616) (h1 : 1 < most) (h2 : most ≤ 1099511627776) :
    wrap64 ((IntKind.u64.wrap ((m : Int) / 1048576)).tmod (most : Int)) = ((m / 1048576 % most : Nat) : Int) := by
  have h := draw_fin 0 m most (by omega) hm h1 h2
  simpa using h
theorem grown_set {w : World} {w' : World} {g o : Nat} {v : Value} (h : w.grownBy w' (some g)) : w.grownBy (w'.setCell ⟨g, o, none⟩ v) (some g) :=
  ⟨h.os, h.tape, h.output, by simpa [World.setCell] using h.size, fun k hk hne => (Below.heap_setCell _ _ _ _ (fun e => hne (by simp [e]))).trans (h.block k hk hne)⟩
theorem grown_drew {w w' : World} {r : Option Nat} (h : w.grownBy w' r) : w.grownBy w'.drew r := ⟨h.os, h.tape, h.output, h.size, h.block⟩
theorem grown_refl (w : World) (g : Nat) : w.grownBy w (some g) := ⟨rfl, rfl, rfl, Nat.le_refl _, fun _ _ _ => rfl⟩
/-- One step of the mix. -/
theorem mix1 (m : Nat) (h : m < 18446744073709551616) : ∃ k : Nat, bits .xor .u64 (m : Int) (IntKind.u64.wrap ((m : Int) * 8192)) = (k : Int) ∧ Hid (k < 18446744073709551616) := by
  refine ⟨m ^^^ (m * 8192 % 18446744073709551616), ?_, Nat.xor_lt_two_pow (n := 64) h (Nat.mod_lt _ (by omega))⟩
  rw [← u64_xor_nat m _ h (Nat.mod_lt _ (by omega)), IntKind.wrap_u64]
  rfl
theorem mix2 (m : Nat) (h : m < 18446744073709551616) : ∃ k : Nat, bits .xor .u64 (m : Int) ((m : Int) / 128) = (k : Int) ∧ Hid (k < 18446744073709551616) := by
  refine ⟨m ^^^ (m / 128), ?_, Nat.xor_lt_two_pow (n := 64) h (show m / 128 < 18446744073709551616 by omega)⟩
  rw [← u64_xor_nat m _ h (by omega)]
  rfl
theorem mix3 (m : Nat) (h : m < 18446744073709551616) : ∃ k : Nat, bits .xor .u64 (m : Int) (IntKind.u64.wrap ((m : Int) * 131072)) = (k : Int) ∧ Hid (k < 18446744073709551616) := by
  refine ⟨m ^^^ (m * 131072 % 18446744073709551616), ?_, Nat.xor_lt_two_pow (n := 64) h (Nat.mod_lt _ (by omega))⟩
  rw [← u64_xor_nat m _ h (Nat.mod_lt _ (by omega)), IntKind.wrap_u64]
  rfl

theorem bytes_grown {B g : Nat} {w w' : World} {a : Option Addr} {len : Nat} (h : Bytes B w a len) (hg : w.grownBy w' (some g)) (hB : B ≤ g) : Bytes B w' a len := fun i hi => by
  obtain ⟨b, off, e, hb, n, hn, hc⟩ := h i hi
  exact ⟨b, off, e, hb, n, hn, hg.cell hc (by intro e; simp at e; omega)⟩
theorem bytes_below {B C : Nat} {w w' : World} {a : Option Addr} {len : Nat} (h : Bytes B w a len) (hb : Below C w w') (hB : B ≤ C) : Bytes B w' a len := fun i hi => by
  obtain ⟨b, off, e, hlt, n, hn, hc⟩ := h i hi
  exact ⟨b, off, e, hlt, n, hn, (hb.cell (p := ⟨b, off + i, none⟩) (by show b < C; omega)).trans hc⟩
theorem mix0 (m x : Nat) (h : m < 18446744073709551616) (hx : x < 256) : ∃ k : Nat, bits .xor .u64 (m : Int) (x : Int) = (k : Int) ∧ ∃ j : Nat, IntKind.u64.wrap ((k : Int) * 1099511628211) = (j : Int) ∧ Hid (j < 18446744073709551616) := by
  refine ⟨m ^^^ x, u64_xor_nat m x h (by omega), (m ^^^ x) * 1099511628211 % 18446744073709551616, ?_, Nat.mod_lt _ (by omega)⟩
  rw [IntKind.wrap_u64]
  rfl

/-- n bytes are drawn. -/
theorem below_app2 {B : Nat} {w wr w1 : World} {o : Obj} {e : TypeId} {v : Value} {n : Nat} {xs : List Value} (hbel : Below B w wr) (hsz : B ≤ wr.heap.size) (hown : wr.ownsRow B e 1 v n xs) (hgrow : (wr.alloc o).grownBy w1 v.ownBlock) : Below B w w1 :=
  (hbel.alloc hsz o).grown hgrow (by simp; omega) (fun k hk => (hown.lt k hk).1)
theorem append_byte2 {w : World} {base : Nat} {e : TypeId} {v : Value} {l : List UInt8} {b : UInt8} {x : Value} (h : w.ownsRow base e 1 v (l.length + 1) (l.map bv ++ [x])) (hx : x = bv b) : w.ownsRow base e 1 v (l ++ [b]).length ((l ++ [b]).map bv) := by
  subst hx
  simpa using h
theorem owns_grown {w w' : World} {base g : Nat} {e : TypeId} {v : Value} {n : Nat} {xs : List Value} (h : w.ownsRow base e 1 v n xs) (hg : w.grownBy w' (some g)) (hlt : g < base) : w'.ownsRow base e 1 v n xs :=
  h.kept hg (by
    by_cases hn : v.ownBlock = none
    · exact .inl hn
    · right
      intro e
      have := h.lt g e
      omega)

end Go.Proofs.YtdepaeajfldfbaaGreatDoor
