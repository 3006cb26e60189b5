import Derived.Test.YtahccighonddaaaGreatDoorLawRingAsk
import Derived.Lib.SmallJoins
import Derived.Deep.SlicePairs
import Derived.SliceStrings
import Derived.ProofKit
import Derived.OpenShut
namespace Go.Proofs.YtahccighonddaaaGreatDoor
open Go.ChangeShapes Go.WideShapes Go.ChangeAt Go.RowKit Go.Deep
open Go.Joins (open_agg4)
theorem cellsRing : Tryz.prog.cellsOf 107 = 4 := by kernel_rfl
theorem cellsStr : Tryz.prog.cellsOf 9 = 1 := by kernel_rfl
theorem cellsLCur : Tryz.prog.cellsOf 221 = 2 := by kernel_rfl
theorem cellsInt : Tryz.prog.cellsOf 2 = 1 := by kernel_rfl
theorem strs_of_trod {H : Type} {enc : TypeId × Value → H} {w : World} {n : Nat} {x : Value} {y : DataW H × List MemPlace} (h : DataW.trod enc Tryz.prog w 0 (fun _ => true) true n 43 [x] = some y) :
    ∃ a len cap l,x = .slice a len cap ∧ Strs w a len l ∧ len ≤ maxLen ∧ ∀ s ∈ l,s.size ≤ maxLen := by
  rcases open_strings Tryz.underlying43 Tryz.underlying9 cellsStr h with ⟨e,_⟩ | ⟨a,len,cap,ss,e,_,hl,hm,hz,_,hcell,hws⟩
  · exact ⟨none,0,0,[],by simpa using e,⟨rfl,fun i hi => by simp at hi⟩,by unfold maxLen; omega,fun s hs => by cases hs⟩
  · simp at hz
    refine ⟨some a,len,cap,ss.take len,by simpa using e,⟨by simp; omega,fun i hi => ?_⟩,Nat.le_trans hl hm,fun s hs => hws s (List.mem_of_mem_take hs)⟩
    have hi' : i < len := by simp at hi; omega
    obtain ⟨b,off,spot⟩ := a
    have hspot : spot = none := by simpa [Addr.add] using World.cell?_spot (hcell 0 (by omega))
    subst hspot
    refine ⟨b,off,rfl,?_⟩
    have hc := hcell i (by omega)
    rw [Addr.add_lit] at hc
    rw [hc]
    simp [show i < ss.length by omega]
theorem curs_of_trod {H : Type} {enc : TypeId × Value → H} {w : World} {n : Nat} {x : Value} {y : DataW H × List MemPlace} (h : DataW.trod enc Tryz.prog w 0 (fun _ => true) true n 105 [x] = some y) :
    ∃ a len cap l,x = .slice a len cap ∧ Curs w a len l ∧ len ≤ maxLen := by
  rcases open_slice_pairs Tryz.underlying105 Tryz.underlying221 cellsLCur (by kernel_rfl) (by kernel_rfl) (by kernel_rfl) (by kernel_rfl) h with ⟨e,_⟩ | ⟨a,len,cap,m,k,V0,V1,D0,D1,P0,P1,e,_,hl,hm,hmm,_,hcell⟩
  · exact ⟨none,0,0,[],by simpa using e,⟨rfl,fun i hi => by simp at hi⟩,by unfold maxLen; omega⟩
  · simp at hmm
    have hint : ∀ i,i < len → ∃ g t,V0 i = .int .i64 g ∧ V1 i = .int .i64 t := fun i hi => by
      obtain ⟨_,_,h0,h1⟩ := hcell i (by omega)
      obtain ⟨g,e0,_,_⟩ := DataW.trod_int Tryz.underlying2 h0
      obtain ⟨t,e1,_,_⟩ := DataW.trod_int Tryz.underlying2 h1
      exact ⟨g,t,by simpa using e0,by simpa using e1⟩
    obtain ⟨q,hq⟩ := choose_lt (α := Int × Int) (p := fun i c => V0 i = .int .i64 c.1 ∧ V1 i = .int .i64 c.2) (fun i hi => by obtain ⟨g,t,h1,h2⟩ := hint i hi; exact ⟨(g,t),h1,h2⟩)
    refine ⟨some a,len,cap,(List.range len).map q,by simpa using e,⟨by simp,fun i hi => ?_⟩,Nat.le_trans hl hm⟩
    have hi' : i < len := by simpa using hi
    obtain ⟨hc0,hc1,_,_⟩ := hcell i (by omega)
    obtain ⟨b,off,spot⟩ := a
    have hspot : spot = none := by
      have h0 := (hcell 0 (by omega)).1
      simpa [Addr.add] using World.cell?_spot h0
    subst hspot
    rw [Addr.add_lit,(hq i hi').1] at hc0
    rw [Addr.add_lit,(hq i hi').2] at hc1
    exact ⟨b,off,rfl,by simpa using hc0,by simpa [Nat.add_assoc] using hc1⟩
end Go.Proofs.YtahccighonddaaaGreatDoor
