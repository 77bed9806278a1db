import Derived.Test.YtffkoiemnchdgadGreatB08
import Derived.Test.YtffkoiemnchdgadGreatB10
import Derived.Deep.RegionLaw
import Derived.Deep.DeepCutAuto
import Derived.Test.YtffkoiemnchdgadGreatB07
import Derived.Shelf.Sort.Plain
import Derived.Shelf.Slices.CompactS
import Derived.Shelf.Slices.In.SortNone
import Derived.Test.YtffkoiemnchdgadGreatProg
import Derived.Sort.OwnSorted
import Derived.Test.YtffkoiemnchdgadGreatB02
import Derived.Test.YtffkoiemnchdgadGreatB09
import Derived.Laws.BitsLemmas
namespace Go.Proofs.YtffkoiemnchdgadGreat
open Go.RowKit
set_option maxHeartbeats 1000000 in
theorem QIH (n:ByteArray) (w:World) :
  Calls Tryz.prog 41 #[.string n] w fun e w'=>e = .returned (.agg #[.int .i64 1,.string n,.slice none 0 0])∧Below w.heap.size w w':=by
 have B:=(Below.refl w.heap.size w).alloc (Nat.le_refl _)
 go_enter Tryz.func41,Tryz.ntmps41
 go_wp2_with fail;(exact bodyPost_ret (v := .agg #[.int .i64 1,.string n,.slice none 0 0]) (by simp [results,Tryz.results41,go_sem]) rfl ⟨rfl,B _⟩)
theorem QEi {f:Fm} (h:f.code.1=0):f.code=(0,0):=by
 rcases hx:chk f 0 with s|⟨c,a⟩
 ·simp only [Fm.code,hx]
 ·have:=QCa f 0 c a hx
  simp only [Fm.code,hx] at h;exact absurd h this
theorem QIu {f:Fm} (h:f.code=(0,0)):∃ s,chk f 0 = .ok s:=by
 rcases hx:chk f 0 with s|⟨c,a⟩
 ·exact⟨s,rfl⟩
 ·have:=QCa f 0 c a hx
  simp only [Fm.code,hx] at h;exact absurd (Prod.mk.inj h).1 this
open Go.RowKit Go.Maps Go.WideMaps
def OkV (cb:Nat) (l:List (List UInt8)) (w:World):Prop:=∃ b,w.heap[cb]? = some (.cells #[.map (some b)] 165 (0,0))∧PM w b l
theorem PM.up {w w':World} {b:Nat} {l:List (List UInt8)} (h:PM w b l) (hb:Below w.heap.size w w'):PM w' b l:=by
 obtain⟨n,D,hown,h1,h2,h3⟩:=h;refine⟨n,D,?_,h1,h2,h3⟩;obtain⟨es,clock,he,r⟩:=hown;exact⟨es,clock,QAB hb he,r⟩
set_option maxHeartbeats 1000000 in
theorem QHT (cb:Nat) (l:List (List UInt8)) (n:ByteArray) (w:World) (hok:OkV cb l w) (hn:n.size≤8) :
  Calls Tryz.prog 107 (#[.string n]++#[.pointer (some ⟨cb,0,none⟩)]) w fun e w'=>e = .returned (.bool (decide (n.data.toList∈l)))∧Below w.heap.size w w':=by
 obtain⟨b,hcb,m,D,hown,hm,h1,h2⟩:=hok;obtain⟨t,rfl⟩:∃ t:List UInt8,n=⟨t.toArray⟩:=⟨n.data.toList,rfl⟩;(have hl8:t.length≤8:=by simpa [ByteArray.size] using hn);(have hkey:=QGr t (by unfold maxLen;omega));(have HD:Hid (Maps.has D (.string t)=decide (t∈l)):=h1 t (by unfold maxLen;omega));obtain⟨c1,-⟩:=QCZ hcb;have he:((⟨t.toArray⟩:ByteArray).data.toList)=t:=rfl;rw [he];generalize (⟨t.toArray⟩:ByteArray)=T at *;clear h1 h2 hcb;show Calls Tryz.prog 107 #[.string T,.pointer (some ⟨cb,0,none⟩)] w _
 go_enter Tryz.func107,Tryz.ntmps107
 go_wp2_with (first
  | (
    at_lookup
    refine wpList_lookup_own_ok_int _ rfl _ _ 165 rfl 9 3 .i64 QCJ Tryz.underlying165 Tryz.underlying3 (QJt _) b m _ rfl hown _ _ rfl hkey ?_;intro c hat hwc
    rw [HD.out])
  | fail)
 go_ret;exact⟨rfl,Below.refl _ _⟩
theorem QIh (cap:Array Value) (w:World):(callFunc 107 cap).run Tryz.prog w = .ok (.enter 107 cap) w:=by
 simp [go_sem]
theorem QKT (cb:Nat) (l:List (List UInt8)):QJN 107 #[.pointer (some ⟨cb,0,none⟩)] (fun t=>decide (t∈l)) (OkV cb l) where
 up:=fun ⟨b,h1,h2⟩ hb=>⟨b,QAB hb h1,h2.up hb⟩
 ent:=fun _ w=>QIh _ w
 call:=fun n w hok hn=>QHT cb l n w hok hn
end Go.Proofs.YtffkoiemnchdgadGreat
