import Derived.Test.YtkibdkfdffkkfaaGreatDoorPk34
import Derived.Test.YtkibdkfdffkkfaaGreatDoorPk48
set_option maxRecDepth 100000
set_option maxHeartbeats 8000000
namespace Go.Proofs.YtkibdkfdffkkfaaGreatDoor.Hst
open Go.ChangeShapes Go.WideShapes Go.ChangeAt Go.RowKit
def InBools (w:World) (a:Option Addr) (len cap:Nat) (us:List Bool):Prop :=
 us.length=len/\len<=cap/\cap<=maxLen/\Row w w.heap.size a (us.map Value.bool)
def boolOf {H:Type} (y:DataW H × List MemPlace):Bool:=match y.1 with|.lit (.bool b)=>b|_=>false
theorem in_bools{H:Type}{enc:TypeId × Value->H}{P:Program}{W:World}{base:Nat}{spare:Nat->Bool}{held:Bool}{t e:TypeId}{a:Option Addr}{len cap:Nat}{d:DataW H}{p:List MemPlace}
  (ht:P.underlying t=some (.slice e)) (he:P.underlying e=some .bool) (hC:P.cellsOf e=1) (h:DataW.Trod enc P W base spare held t (.slice a len cap) d p) :
  ∃ us,InBools W a len cap us:=by
 obtain⟨fuel,hf⟩:=h
 rcases DataW.trod_slice ht hf with ⟨hcs,_⟩|⟨x,l,c,elems,rest,n,_,hcs,_,hb,hl,hm,hlen,hel,_,_⟩
 ·simp[Value.cells]at hcs
  obtain⟨rfl,rfl,rfl⟩:=hcs
  exact⟨[],rfl,Nat.le_refl _,Nat.zero_le _,.inl rfl⟩
 ·simp[Value.cells]at hcs
  obtain⟨rfl,rfl,rfl⟩:=hcs
  have each:∀ i y,elems[i]? = some y->W.cell? (x.add i)=some (.bool (boolOf y)):=by
   intro i y hy
   have hi:i<len:=by
    have:=(List.getElem?_eq_some_iff.1 hy).1
    omega
   have hb':=hel i hi
   rw[hy,hC,Nat.mul_one,Option.bind_eq_some_iff]at hb'
   obtain⟨cs',hcs',hy'⟩:=hb'
   obtain⟨b,rfl,rfl⟩:=DataW.trod_bool he hy'
   exact cell_of_cells?_one hcs'
  refine⟨elems.map boolOf,by rw[List.length_map,hlen],hl,hm, ?_⟩
  rcases Nat.eq_zero_or_pos len with h0|h0
  ·refine .inl ?_
   rw[List.eq_nil_of_length_eq_zero (by omega:elems.length=0)]
   rfl
  ·obtain⟨b,off,rg⟩:=x
   have h00:=each 0 _ (List.getElem?_eq_getElem (by omega))
   obtain rfl:rg=none:=Go.Proofs.cell_spot (by simpa[Addr.add] using h00)
   have hadd:∀ i,(⟨b,off,none⟩:Addr).add i=⟨b,off+i,none⟩:=fun i=>by simp[Addr.add]
   rw[hadd]at h00
   refine .inr ⟨b,off,rfl,lt_of_cell h00,fun j hj => ?_⟩
   have hj':j<elems.length:=by simpa using hj
   have hg:=each j _ (List.getElem?_eq_getElem hj')
   rw[hadd]at hg
   rw[hg]
   simp[List.getElem?_eq_getElem hj']
end Go.Proofs.YtkibdkfdffkkfaaGreatDoor.Hst
