import Derived.Test.YtahccighonddaaaGreatDoorTextOut
import Derived.Conc.MuLone
namespace Go.Proofs.YtahccighonddaaaGreatDoor
open Go.RowKit
abbrev muLink : Go.Conc.Locks.MuLink := { lock := 159,unlock := 160,ilock := 206,iunlock := 207,lockSlow := 228,unlockSlow := 231,disable := 224,enable := 226,acquire := 227,relMerge := 229,cas32 := 225,add32 := 230,tMutex := 151,tIMutex := 149,tPMutex := 253,tPIMutex := 279,tPI32 := 281,tUP := 224,tNoCopy := 146,tU32 := 147 }
theorem muLib : Go.Conc.Locks.MuLib Tryz.prog muLink :=
  ⟨Tryz.func159,Tryz.func160,Tryz.func206,Tryz.func207,Tryz.func224,Tryz.func226,Tryz.func227,Tryz.func229,Tryz.func225,Tryz.func230,
   Tryz.underlying149,Tryz.runUnderlying149,Tryz.sizeOf149,Tryz.isAgg149,Tryz.zeroValue149,
   Tryz.underlying151,Tryz.runUnderlying151,Tryz.sizeOf151,Tryz.isAgg151,Tryz.zeroValue151,
   Tryz.underlying253,Tryz.runUnderlying253,Tryz.sizeOf253,Tryz.isAgg253,Tryz.zeroValue253,
   Tryz.underlying279,Tryz.runUnderlying279,Tryz.sizeOf279,Tryz.isAgg279,Tryz.zeroValue279,
   Tryz.underlying281,Tryz.runUnderlying281,Tryz.sizeOf281,Tryz.isAgg281,Tryz.zeroValue281,
   Tryz.underlying224,Tryz.runUnderlying224,Tryz.sizeOf224,Tryz.isAgg224,Tryz.zeroValue224,
   Tryz.underlying146,Tryz.runUnderlying146,Tryz.sizeOf146,Tryz.isAgg146,Tryz.zeroValue146,
   Tryz.underlying21,Tryz.runUnderlying21,Tryz.sizeOf21,Tryz.isAgg21,Tryz.zeroValue21,(by kernel_rfl)⟩
end Go.Proofs.YtahccighonddaaaGreatDoor
