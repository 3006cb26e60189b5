/- A transaction that is handed to a law by value: what can be read of it. -/
import Derived.Test.YtgjomkgbpfklkaaLawTxn0
import Derived.Lib.SmallJoins
import Derived.ChangeSlices
import Derived.ProofKit
import Derived.OpenShut
namespace Go.Proofs.Ytgjomkgbpfklkaa
open Go.ChangeShapes Go.WideShapes Go.ChangeAt Go.RowKit Go.Deep

/-- What the laws ask of the transaction that is handed in. -/
structure LTIn (w : World) (ra : Option Addr) (rl : Nat) (la : Option Addr) (ll : Nat) (rs ls : List Int) : Prop where
  rs : Nums w ra rl rs
  ls : Nums w la ll ls
  rle : rl ≤ maxLen
  lle : ll ≤ maxLen
theorem LTIn.below {w w' : World} {ra la : Option Addr} {rl ll : Nat} {rs ls : List Int} (h : LTIn w ra rl la ll rs ls) (hb : Below w.heap.size w w') : LTIn w' ra rl la ll rs ls := ⟨nums_below h.rs hb, nums_below h.ls hb, h.rle, h.lle⟩
abbrev ltxnObj (p e s u : Int) (ra : Option Addr) (rl rc : Nat) (la : Option Addr) (ll lc : Nat) : Obj := .cells #[.int .i64 p, .int .i64 e, .int .i64 s, .int .i64 u, .slice ra rl rc, .slice la ll lc] 33 (0, 0)
theorem cellsTxn : Try.prog.cellsOf 33 = 6 := by kernel_rfl
theorem cellsI64 : Try.prog.cellsOf 2 = 1 := by kernel_rfl
theorem nums_of_trod {H : Type} {enc : TypeId × Value → H} {w : World} {n : Nat} {x : Value} {y : DataW H × List MemPlace} (h : DataW.trod enc Try.prog w 0 (fun _ => true) true n 23 [x] = some y) :
    ∃ a len cap l, x = .slice a len cap ∧ Nums w a len l ∧ len ≤ maxLen := by
  rcases open_ints Try.underlying23 Try.underlying2 cellsI64 h with ⟨e, _⟩ | ⟨a, len, cap, zs, e, _, hl, hm, hz, _, hcell, _⟩
  · exact ⟨none, 0, 0, [], by simpa using e, ⟨rfl, fun i hi => by simp at hi⟩, by unfold maxLen; omega⟩
  · simp at hz
    refine ⟨some a, len, cap, zs.take len, by simpa using e, ⟨by simp; omega, fun i hi => ?_⟩, Nat.le_trans hl hm⟩
    have hi' : i < len := by simp at hi; omega
    obtain ⟨b, off, spot⟩ := a
    have hspot : spot = none := by simpa [Addr.add] using World.cell?_spot (hcell 0 (by omega))
    subst hspot
    refine ⟨b, off, rfl, ?_⟩
    have hc := hcell i (by omega)
    rw [Addr.add_lit] at hc
    rw [hc]
    simp [show i < zs.length by omega]
theorem array6 {α : Type} {cs : Array α} (h : cs.size = 6) : ∃ c0 c1 c2 c3 c4 c5, cs = #[c0, c1, c2, c3, c4, c5] := by
  obtain ⟨l⟩ := cs
  match l, h with
  | [c0, c1, c2, c3, c4, c5], _ => exact ⟨c0, c1, c2, c3, c4, c5, rfl⟩
set_option maxRecDepth 100000 in
theorem txn_arg {H : Type} {enc : TypeId × Value → H} {w : World} {r : Reach} {b0 : Nat} {v : Value} {d : DataW H} {q : List MemPlace} (hv : Value.okWide Try.prog w r b0 33 v) (h : DataW.Trod enc Try.prog w 0 (fun _ => true) true 33 v d q) :
    ∃ p e s u ra rl rc la ll lc rs ls, v = txnV p e s u ra rl rc la ll lc ∧ LTIn w ra rl la ll rs ls := by
  obtain ⟨cs, rfl, hsz⟩ := okWide_struct Try.underlying33 hv
  obtain ⟨c0, c1, c2, c3, c4, c5, rfl⟩ := array6 (hsz.trans cellsTxn)
  obtain ⟨fuel, hf⟩ := h
  obtain ⟨xs, n, _, _, _, _, hg⟩ := DataW.trod_struct Try.underlying33 hf
  have g0 := hg 0 _ rfl
  have g1 := hg 1 _ rfl
  have g2 := hg 2 _ rfl
  have g3 := hg 3 _ rfl
  have g4 := hg 4 _ rfl
  have g5 := hg 5 _ rfl
  have hlen : xs.length = 6 := by assumption
  match xs, hlen with
  | [y0, y1, y2, y3, y4, y5], _ =>
    have e64 : Try.prog.cellsOf 2 = 1 := cellsI64
    have eS : Try.prog.cellsOf 23 = 1 := by kernel_rfl
    simp [Value.cells, e64, eS] at g0 g1 g2 g3 g4 g5
    obtain ⟨k0, e0, _, _⟩ := DataW.trod_int Try.underlying2 g0
    obtain ⟨k1, e1, _, _⟩ := DataW.trod_int Try.underlying2 g1
    obtain ⟨k2, e2, _, _⟩ := DataW.trod_int Try.underlying2 g2
    obtain ⟨k3, e3, _, _⟩ := DataW.trod_int Try.underlying2 g3
    obtain ⟨ra, rl, rc, rs, e4, hr, hrl⟩ := nums_of_trod g4
    obtain ⟨la, ll, lc, ls, e5, hl, hll⟩ := nums_of_trod g5
    simp at e0 e1 e2 e3
    subst e0 e1 e2 e3 e4 e5
    exact ⟨k0, k1, k2, k3, ra, rl, rc, la, ll, lc, rs, ls, rfl, hr, hl, hrl, hll⟩
end Go.Proofs.Ytgjomkgbpfklkaa
