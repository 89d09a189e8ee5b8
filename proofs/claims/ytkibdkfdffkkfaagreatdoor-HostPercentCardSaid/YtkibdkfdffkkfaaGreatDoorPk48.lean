import Derived.Test.YtkibdkfdffkkfaaGreatDoorPk02
import Derived.ShutString
set_option maxRecDepth 100000
set_option maxHeartbeats 8000000
namespace Go.Proofs.YtkibdkfdffkkfaaGreatDoor
open Go.ChangeShapes Go.WideShapes Go.ChangeAt Go.RowKit
def InRow (k:IntKind) (w:World) (a:Option Addr) (len cap:Nat) (zs:List Int):Prop :=
 zs.length=len/\len<=cap/\cap<=maxLen/\Row w w.heap.size a (cl k zs)/\∀ n∈zs,(Lit.int k n).wf=true
theorem lt_of_cell{w:World}{b o:Nat}{v:Value}(h:w.cell? ⟨b,o,none⟩=some v):b<w.heap.size:=by
 rcases Nat.lt_or_ge b w.heap.size with hl|hg
 ·exact hl
 ·simp[World.cell?,Array.getElem?_eq_none hg]at h
theorem in_row{H:Type}{enc:TypeId × Value->H}{P:Program}{W:World}{base:Nat}{spare:Nat->Bool}{held:Bool}{t e:TypeId}{k:IntKind}{a:Option Addr}{len cap:Nat}{d:DataW H}{p:List MemPlace}
  (ht:P.underlying t=some (.slice e)) (he:P.underlying e=some (.int k)) (hC:P.cellsOf e=1) (h:DataW.Trod enc P W base spare held t (.slice a len cap) d p) :
  ∃ zs,InRow k W a len cap zs:=by
 obtain⟨fuel,hf⟩:=h
 rcases open_ints ht he hC hf with ⟨hcs,_⟩|⟨x,l,c,zs,hcs,_,hl,hm,hz,_,hcell,hwz⟩
 ·simp[Value.cells]at hcs
  obtain⟨rfl,rfl,rfl⟩:=hcs
  exact⟨[],rfl,Nat.le_refl _,Nat.zero_le _,.inl rfl,by simp⟩
 ·simp[Value.cells]at hcs
  obtain⟨rfl,rfl,rfl⟩:=hcs
  refine⟨zs.take len, ?_,hl,hm, ?_,fun n hn=>hwz n (List.mem_of_mem_take hn)⟩
  ·rw[List.length_take]
   split at hz<;>omega
  ·rcases Nat.eq_zero_or_pos len with h0|h0
   ·exact .inl (by rw[h0];rfl)
   ·have hlz:len<=zs.length:=by split at hz<;>omega
    obtain⟨b,off,rfl,hc⟩:=ints_at hcell (by omega)
    refine .inr ⟨b,off,rfl,lt_of_cell (hc 0 (by omega)),fun j hj => ?_⟩
    have hj':j<len:=by simpa[Nat.min_eq_left hlz] using hj
    rw[hc j (by omega),cl_get _ _ _ (by rw[List.length_take];omega),List.getElem_take]
    simp[List.getD,List.getElem?_eq_getElem (show j<zs.length by omega)]
theorem wf_u8{n:Int}(h:(Lit.int .u8 n).wf=true):0<=n/\n<=255:=by simpa[Lit.wf,IntKind.min,IntKind.max,IntKind.signed,IntKind.bits] using h
theorem wf_u16{n:Int}(h:(Lit.int .u16 n).wf=true):0<=n/\n<=65535:=by simpa[Lit.wf,IntKind.min,IntKind.max,IntKind.signed,IntKind.bits] using h
theorem wf_i32{n:Int}(h:(Lit.int .i32 n).wf=true):-2147483648<=n/\n<=2147483647:=by simpa[Lit.wf,IntKind.min,IntKind.max,IntKind.signed,IntKind.bits] using h
end Go.Proofs.YtkibdkfdffkkfaaGreatDoor
