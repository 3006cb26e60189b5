import Derived.Test.YtahccighonddaaaGreatDoorRingFault
import Derived.Test.YtahccighonddaaaGreatDoorVars
import Derived.Stop.LaidErr
namespace Go.Proofs.YtahccighonddaaaGreatDoor
open Go.RowKit Go.ChangeShapes
def sentD (text : List UInt8) : DataW Unit := .iface "*errors.errorString" (.ptr (.agg [.lit (.string text)]))
set_option maxRecDepth 100000 in
theorem laid_sents {W : World} (L : List (String × List UInt8 × Nat)) (r : List (String × DataW Unit)) (ps : List MemPlace) (h : DataW.LaidVars Tryz.prog W (L.map (fun x => (x.1,sentD x.2.1)) ++ r) ps)
    (hrows : ∀ b off,MemPlace.cell b off ∈ ps → (∃ c t,W.heap[b]? = some (.cells c t (0,0))) ∧ ∀ u v,W.cell? ⟨b,off,none⟩ = some (.iface u v) → Value.okWide Tryz.prog W .any 0 u v)
    (hg : ∀ x ∈ L,Tryz.prog.globalNamed x.1 = some x.2.2 ∧ (Tryz.prog.globals[x.2.2]?).map (·.type) = some 77) :
    ∃ qs : List Addr,qs.length = L.length ∧ (qs.map fun a => MemPlace.cell a.block a.off).Sublist ps ∧ ∀ (i : Nat) (x : String × List UInt8 × Nat) (a : Addr),L[i]? = some x → qs[i]? = some a → W.var? Tryz.prog x.1 = some #[.iface 310 (.pointer (some a))] ∧ ∃ c t,W.heap[a.block]? = some (.cells c t (0,0)) := by
  induction L generalizing ps with
  | nil => exact ⟨[],rfl,List.nil_sublist _,fun i x a h => by simp at h⟩
  | cons x L ih =>
    obtain ⟨n,text,g⟩ := x
    obtain ⟨g0,t0,cs0,f0,p0,q0,hg0,ht0,hv0,hd0,hq,e0⟩ := h
    have hgx := hg _ (List.mem_cons_self ..)
    obtain rfl := Option.some.inj (hgx.1.symm.trans hg0)
    obtain rfl := Option.some.inj (hgx.2.symm.trans ht0)
    subst e0
    obtain ⟨l0⟩ := cs0
    have ok0 : ∀ u v,l0 = [.iface u v] → Value.okWide Tryz.prog W .any 0 u v := fun u v e => by
      subst e
      exact (hrows g 0 (by simp [MemPlace.row])).2 u v (by simpa using World.var?_cell hgx.1 hv0 0)
    obtain ⟨a0,s0,rfl,_,_,_,hp0⟩ := errorString_of_trod Tryz.underlying77 errRow Tryz.underlying310 Tryz.underlying336 rfl rfl Tryz.underlying9 errCells strCells1 hd0 ok0
    subst hp0
    obtain ⟨qs,hl,hsub,hall⟩ := ih q0 hq (fun b off hm => hrows b off (List.mem_append_right _ hm)) (fun x hx => hg x (List.mem_cons_of_mem _ hx))
    refine ⟨a0 :: qs,by simp [hl],?_,fun i x a hx ha => ?_⟩
    · rw [List.map_cons,← List.singleton_append]
      exact List.Sublist.append (by simp [MemPlace.row]) hsub
    · cases i with
      | zero =>
        simp only [List.getElem?_cons_zero,Option.some.injEq] at hx ha
        subst hx ha
        exact ⟨hv0,(hrows a0.block a0.off (by simp [MemPlace.row])).1⟩
      | succ i =>
        simp only [List.getElem?_cons_succ] at hx ha
        exact hall i x a hx ha
set_option maxRecDepth 100000 in
theorem errs_of {W : World} {t1 t2 t3 t4 t5 t6 : List UInt8} {r : List (String × DataW Unit)} (h : laidMet Tryz.prog (("loop.example/g00643/impl.errNotRight",sentD t1) :: ("loop.example/g00643/impl.errFenced",sentD t2) :: ("loop.example/g00643/impl.errNoRing",sentD t3) :: ("loop.example/g00643/impl.errState",sentD t4) :: ("loop.example/g00643/impl.errNoRoom",sentD t5) :: ("loop.example/g00643/impl.errNoneLeft",sentD t6) :: r) W) (ht : errType W) :
    ∃ aN aF aR aS aM aL,Errs aN aF aR aS aM aL W ∧ W.var? Tryz.prog "loop.example/g00643/impl.errNotRight" = some #[.iface 310 (.pointer (some aN))] ∧ W.var? Tryz.prog "loop.example/g00643/impl.errFenced" = some #[.iface 310 (.pointer (some aF))] ∧ W.var? Tryz.prog "loop.example/g00643/impl.errNoRing" = some #[.iface 310 (.pointer (some aR))] ∧ W.var? Tryz.prog "loop.example/g00643/impl.errState" = some #[.iface 310 (.pointer (some aS))] ∧ W.var? Tryz.prog "loop.example/g00643/impl.errNoRoom" = some #[.iface 310 (.pointer (some aM))] ∧ W.var? Tryz.prog "loop.example/g00643/impl.errNoneLeft" = some #[.iface 310 (.pointer (some aL))] := by
  obtain ⟨ps,hv,hnd,hrows⟩ := h
  have hG : ∀ x ∈ ([("loop.example/g00643/impl.errNotRight",t1,0),("loop.example/g00643/impl.errFenced",t2,3),("loop.example/g00643/impl.errNoRing",t3,1),("loop.example/g00643/impl.errState",t4,4),("loop.example/g00643/impl.errNoRoom",t5,2),("loop.example/g00643/impl.errNoneLeft",t6,5)] : List (String × List UInt8 × Nat)),Tryz.prog.globalNamed x.1 = some x.2.2 ∧ (Tryz.prog.globals[x.2.2]?).map (·.type) = some 77 := fun x hx => by
    simp only [List.mem_cons,List.not_mem_nil,or_false] at hx
    rcases hx with rfl | rfl | rfl | rfl | rfl | rfl <;> exact ⟨by kernel_rfl,by kernel_rfl⟩
  obtain ⟨qs,hl,hsub,hall⟩ := laid_sents [("loop.example/g00643/impl.errNotRight",t1,0),("loop.example/g00643/impl.errFenced",t2,3),("loop.example/g00643/impl.errNoRing",t3,1),("loop.example/g00643/impl.errState",t4,4),("loop.example/g00643/impl.errNoRoom",t5,2),("loop.example/g00643/impl.errNoneLeft",t6,5)] r ps hv hrows hG
  match qs,hl with
  | [aN,aF,aR,aS,aM,aL],_ =>
    have hn : [aN,aF,aR,aS,aM,aL].Nodup := (List.pairwise_map.1 (hnd.sublist hsub)).imp fun h e => h (by rw [e])
    have h0 := hall 0 _ aN rfl rfl
    have h1 := hall 1 _ aF rfl rfl
    have h2 := hall 2 _ aR rfl rfl
    have h3 := hall 3 _ aS rfl rfl
    have h4 := hall 4 _ aM rfl rfl
    have h5 := hall 5 _ aL rfl rfl
    have hc : ∀ {n : String} {g : Nat} {x : Addr},Tryz.prog.globalNamed n = some g → W.var? Tryz.prog n = some #[.iface 310 (.pointer (some x))] → W.cell? ⟨g,0,none⟩ = some (.iface 310 (.pointer (some x))) := fun hg h => by simpa using World.var?_cell hg h 0
    exact ⟨aN,aF,aR,aS,aM,aL,⟨⟨hc (by kernel_rfl) h0.1,h0.2⟩,⟨hc (by kernel_rfl) h1.1,h1.2⟩,⟨hc (by kernel_rfl) h2.1,h2.2⟩,⟨hc (by kernel_rfl) h3.1,h3.2⟩,⟨hc (by kernel_rfl) h4.1,h4.2⟩,⟨hc (by kernel_rfl) h5.1,h5.2⟩,ht,hn⟩,h0.1,h1.1,h2.1,h3.1,h4.1,h5.1⟩
theorem rt_name : (Tryz.prog.cutTypes.find? (·.1 == "internal/reflectlite.rtype")).map (·.2) = some 263 := by kernel_rfl
theorem rt_one : ((List.range 348).filter fun t => Tryz.prog.rowNamed t [101,114,114,111,114]) = [77] := by kernel_rfl
theorem rt_size : Tryz.prog.types.size = 348 := by kernel_rfl
theorem rt_var : Tryz.prog.globalNamed "errors.errorType" = some 6 := by kernel_rfl
theorem type_of_handle {W : World} {l : List (String × DataW Unit)} (h : handlesMet Tryz.prog l W) {d : DataW Unit} (hm : ("errors.errorType",d) ∈ l) (hd : d.handleName? = some [101,114,114,111,114]) (hf : d.funcsIn? = none) : errType W := by
  have h1 := h _ hm
  rw [hf] at h1
  obtain ⟨name,u,ty,e1,e2,e3,e4,e5⟩ := h1
  have en : name = [101,114,114,111,114] := (Option.some.inj (hd.symm.trans e1)).symm
  subst en
  obtain rfl := Option.some.inj (rt_name.symm.trans e2)
  have hm : ty ∈ (List.range 348).filter fun t => Tryz.prog.rowNamed t [101,114,114,111,114] := List.mem_filter.2 ⟨List.mem_range.2 (by rw [← rt_size]; exact e3),e4⟩
  rw [rt_one] at hm
  obtain rfl := List.mem_singleton.1 hm
  have hh : typeHandle Tryz.prog 77 = .pointer (some ⟨9,77,none⟩) := by kernel_rfl
  rw [hh] at e5
  simpa [errType] using World.var?_cell rt_var e5 0
end Go.Proofs.YtahccighonddaaaGreatDoor
