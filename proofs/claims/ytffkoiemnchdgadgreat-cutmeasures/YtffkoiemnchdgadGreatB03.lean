import Derived.Test.YtffkoiemnchdgadGreatB01
namespace Go.Proofs.YtffkoiemnchdgadGreat
open Go.RowKit
theorem Kept.past {w w':World} {o:Obj} (h:Kept (·≠w.heap.size) (w.alloc o) w'):Kept (fun _=>True) w w' :=
 ⟨h.os,h.tape,h.output,by have:=h.size;simp at this;omega,fun k hk _=>(h.block k (by simp;omega) (by omega)).trans (Below.heap_alloc _ _ _ hk)⟩
end Go.Proofs.YtffkoiemnchdgadGreat
