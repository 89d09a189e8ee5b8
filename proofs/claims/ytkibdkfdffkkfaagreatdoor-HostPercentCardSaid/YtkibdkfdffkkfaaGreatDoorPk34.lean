import Derived.Test.YtkibdkfdffkkfaaGreatDoorPk07
import Derived.Lib.ItoaNum
import Derived.Test.YtkibdkfdffkkfaaGreatDoorPk02
import Derived.Test.YtkibdkfdffkkfaaGreatDoorPk05
import Derived.Deep.MidRow
import Derived.Deep.LoopGhost
import Derived.Deep.DeepCutAuto
import Derived.Deep.RegionLaw
import Derived.Laws.CopyOwn
import Derived.Shelf.Strings.OnBuilder
import Derived.Shelf.Strings.Cut
import Derived.Shelf.Strings.Count
import Derived.Shelf.Strings.Split
import Derived.Shelf.Strings.Repeat
import Derived.Shelf.Strings.SlTrimAscii
import Derived.Shelf.Strconv.Itoa3
import Derived.Lib.AppendIntMem
import Derived.Shelf.Spec.TrailingZeros
import Derived.Lib.LaidU8
import Derived.HandedShaped
import Derived.WideKeyArr2
set_option maxRecDepth 100000
set_option maxHeartbeats 8000000
namespace Go.Proofs.YtkibdkfdffkkfaaGreatDoor.Sx
def dgB (d:Nat):UInt8:=if d<10 then UInt8.ofNat (48+d) else UInt8.ofNat (87+d)
def digs (b n:Nat):List UInt8:=if _h:n<b∨b<2 then [dgB n] else digs b (n/b)++[dgB (n%b)]
termination_by n
decreasing_by exact Nat.div_lt_self (by omega) (by omega)
def zr (x:List Nat) (k n:Nat):Prop:=∀ i,k<=i->i<k+n->x.getD i 1=0
def Bef (k' n' k n:Nat):Prop:=n<n'∨(n'=n/\k'<k)
def IsRun (x:List Nat) (k n:Nat):Prop :=
 (n=0/\k=0/\∀ k' n',2<=n'->k'+n'<=8->¬ zr x k' n')∨(2<=n/\k+n<=8/\zr x k n/\∀ k' n',2<=n'->k'+n'<=8->Bef k' n' k n->¬ zr x k' n')
theorem IsRun.exists(x:List Nat):∃ k n,IsRun x k n:=by
 by_cases h:∃ m,∃ k' n',(2<=n'/\k'+n'<=8)/\(m=8*(8-n')+k'/\zr x k' n')
 ·have hw:∀ m,(∃ k' n',(2<=n'/\k'+n'<=8)/\(m=8*(8-n')+k'/\zr x k' n'))->∃ k n,IsRun x k n:=by
   intro m
   induction m using Nat.strongRecOn with
   | _ m ih =>
    rintro ⟨k,n,⟨h1,h2⟩,h3,h4⟩
    by_cases hb:∃ k' n',(2<=n'/\k'+n'<=8)/\(Bef k' n' k n/\zr x k' n')
    ·obtain⟨k',n',⟨g1,g2⟩,g3,g4⟩:=hb
     exact ih (8*(8-n')+k') (by unfold Bef at g3;omega) ⟨k',n',⟨g1,g2⟩,rfl,g4⟩
    ·exact⟨k,n,.inr ⟨h1,h2,h4,fun k' n' g1 g2 g3 g4=>hb ⟨k',n',⟨g1,g2⟩,g3,g4⟩⟩⟩
  obtain⟨m,hm⟩:=h
  exact hw m hm
 ·exact⟨0,0,.inl ⟨rfl,rfl,fun k' n' h1 h2 h3=>h ⟨_,k',n',⟨h1,h2⟩,rfl,h3⟩⟩⟩
def hx (x:List Nat):List (List UInt8):=x.map (digs 16)
def shw (x:List Nat) (k n:Nat):List UInt8:=if n=0 then jn (hx x) else jn (hx (x.take k))++58::58::jn (hx (x.drop (k+n)))
def tld (ps:List (List UInt8)) (x:List Nat):Prop:=ps.map pce=x.map some
theorem tld.take{ps:List (List UInt8)}{x:List Nat}(h:tld ps x)(k:Nat):tld (ps.take k) (x.take k):=by
 unfold tld at h ⊢
 rw[List.map_take,List.map_take,h]
theorem tld.drop{ps:List (List UInt8)}{x:List Nat}(h:tld ps x)(k:Nat):tld (ps.drop k) (x.drop k):=by
 unfold tld at h ⊢
 rw[List.map_drop,List.map_drop,h]
end Go.Proofs.YtkibdkfdffkkfaaGreatDoor.Sx
namespace Go.Proofs.YtkibdkfdffkkfaaGreatDoor.Sx
open Go.RowKit
abbrev dl (s:ByteArray):List UInt8:=s.data.toList
def bs (l:List UInt8):ByteArray:=⟨l.toArray⟩
theorem bs_data(l:List UInt8):(bs l).data.toList=l:=by simp[bs]
theorem bs_dl(s:ByteArray):bs (dl s)=s:=by simp[bs,dl]
theorem bs_size(l:List UInt8):(bs l).size=l.length:=by rw[Lib.size_eq,bs_data]
theorem ext_take(s:ByteArray)(i:Nat):(s.extract 0 i).data.toList=s.data.toList.take i:=by simp[ByteArray.data_extract]
theorem ext_drop(s:ByteArray)(i j:Nat)(h:j=s.size):(s.extract i j).data.toList=s.data.toList.drop i:=by
 subst h
 simp[ByteArray.data_extract]
 exact List.take_of_length_le (by simp)
theorem get_dl{s:ByteArray}{k:Nat}(h:k<s.size):s[k]=(dl s)[k]'(by simpa using h):=by simp[dl];rfl
theorem byte_eq{c:UInt8}{k:Nat}(_:k<256)(h:((c.toNat:Int)==(k:Int))=true):c=UInt8.ofNat k:=by
 have:c.toNat=k:=by have:=eq_of_beq h;omega
 rw[<-this];simp
theorem byte_ne{c:UInt8}{k:Nat}(_:k<256)(h:((c.toNat:Int)==(k:Int))=false):c≠UInt8.ofNat k:=by
 rintro rfl
 simp at h
 omega
theorem upB{w w1 w2:World}(h:Below w.heap.size w w1)(k:Below w1.heap.size w1 w2):Below w.heap.size w w2:=h.trans (k.mono h.size)
theorem upA(w:World)(o:Obj):Below w.heap.size w (w.alloc o):=(Below.refl _ w).alloc (Nat.le_refl _) o
theorem below_drewN(w:World)(n:Nat):Below w.heap.size w (w.drewN n):=⟨rfl,rfl,rfl,Nat.le_refl _,fun _ _=>rfl⟩
def nth (x:List Nat) (k:Nat):Nat:=x.getD k 1
def cu (x:List Nat):List Value:=x.map fun n:Nat=>Value.int .u16 (n:Int)
theorem cu_len(x:List Nat):(cu x).length=x.length:=by rw[cu,List.length_map]
theorem cu_get{x:List Nat}{k:Nat}(h:k<x.length):(cu x)[k]? = some (.int .u16 (nth x k:Int)):=by
 rw[cu,List.getElem?_map,nth,List.getD,List.getElem?_eq_getElem h]
 rfl
theorem cu_app(x y:List Nat):cu (x++y)=cu x++cu y:=List.map_append
theorem one_cu(x:List Nat):∀ u∈cu x,u.oneCell'=true:=by
 intro u hu
 obtain⟨n,_,rfl⟩:=List.mem_map.1 hu
 rfl
theorem oneA(x:List Nat):(cu x).toArray.all (·.oneCell')=true:=all_oneCell_toArray (one_cu x)
abbrev av (x:List Nat):Value:=.agg (cu x).toArray
def z8:List Nat:=[0,0,0,0,0,0,0,0]
def Hx (w:World) (B:Nat) (x:List Nat):Prop:=w.heap[B]? = some (.cells (cu x).toArray 26 (0,0))
theorem Hx.new(w:World)(x:List Nat):Hx (w.alloc (.cells (cu x).toArray 26)) w.heap.size x:=World.alloc_heap_new w _
theorem Hx.lt{w:World}{B:Nat}{x:List Nat}(h:Hx w B x):B<w.heap.size:=(Array.getElem?_eq_some_iff.1 h).1
theorem Hx.go{a b:World}{B:Nat}{x:List Nat}(h:Hx a B x)(hb:Below a.heap.size a b):Hx b B x:=(hb.block _ h.lt).trans h
theorem Hx.gob{a b:World}{B m:Nat}{x:List Nat}(h:Hx a B x)(hB:B<m)(hb:Below m a b):Hx b B x:=(hb.block _ hB).trans h
theorem Hx.range{w:World}{B:Nat}{x:List Nat}(h:Hx w B x):w.rangeAt B 0 (cu x):=fun j v hv=>by
 rw[cell_of_row w B (0+j) _ _ _ h,Nat.zero_add,List.getElem?_toArray,hv]
theorem Hx.cell{w:World}{B:Nat}{x:List Nat}(h:Hx w B x){k:Nat}(hk:k<x.length):w.cell? ⟨B,k,none⟩=some (.int .u16 (nth x k:Int)):=by
 rw[cell_of_row w B k _ _ _ h,List.getElem?_toArray,cu_get hk]
theorem Hx.frozen{w:World}{B:Nat}{x:List Nat}(h:Hx w B x)(k:Nat):w.frozen? ⟨B,k,none⟩=false:=by
 unfold Hx at h
 simp[World.frozen?,h]
theorem Hx.there{w:World}{B:Nat}{x y:List Nat}(h:Hx w B x)(hy:y.length=x.length):w.there B 0 (cu y).toArray.size:=fun j hj=>by
 rw[Nat.zero_add]
 rw[List.size_toArray,cu_len,hy]at hj
 exact⟨by rw[h.cell hj];rfl,h.frozen j⟩
theorem info8:(Tryz.prog.info? 26).map (·.size)=some 8:=by kernel_rfl
theorem info_of{x:List Nat}(h:x.length=8):(Tryz.prog.info? 26).map (·.size)=some (cu x).length:=by rw[cu_len,h];exact info8
theorem info_ofA{x:List Nat}(h:x.length=8):(Tryz.prog.info? 26).map (·.size)=some (cu x).toArray.size:=by rw[List.size_toArray];exact info_of h
theorem results_cell{P:Program}{fn:Func}{k:Tmp}{t:TypeId}{tmps:Array Value}{w:World}{a:Addr}{v:Value}(h:fn.results=#[.cell k t])(hp:tmps.getD k undef = .pointer (some a))(hl:(loadVar t a).run P w = .ok v w):(results fn tmps).run P w = .ok v w:=by
 rw[Array.getD_eq_getD_getElem?]at hp
 simp[results,h]
 rw[hp]
 simp[asAddr,hl]
theorem below_setCells{B:Nat}{a:World}{b:Nat}(hB:B<=b):∀ (vs:List Value) (o:Nat) (w:World),Below B a w->Below B a (w.setCells b o vs)
 | [],_,_,h=>h
 | v :: r, o, w, h => by
  rw[World.setCells]
  exact below_setCells hB r (o+1) _ (h.setCell hB v)
theorem load_set{w:World}{B:Nat}{x y:List Nat}(h:Hx w B x)(hL:x.length=8)(hM:y.length=8):(loadVar 26 ⟨B,0,none⟩).run Tryz.prog (w.setCells B 0 (cu y)) = .ok (av y) (w.setCells B 0 (cu y)) :=
 run_loadVar_mid _ B 0 26 (cu y) _ (World.rangeAt_setCells_same w B 0 _ (by have:=h.there (y:=y) (by omega);rwa [List.size_toArray]at this)) Tryz.underlying26 rfl (info_of hM)
theorem wpList_load_g{P:Program}{ops:Array Oper}{rest:List Oper}{op:Oper}{a:Act}{w:World}{Q:Exit->Act->World->Prop}(ty:TypeId)(x:Operand)(ho:op.op = .load ty x)
  (b o:Nat) (hx:a.eval x = .pointer (some ⟨b,o,none⟩)) (cs:List Value) (d:TypeDesc) (hc:w.rangeAt b o cs)
  (hu:P.underlying ty=some d) (hd:d.isRow=true) (hi:(P.info? ty).map (·.size)=some cs.length) (hgd:Region.wanted op (yielded ops a.tmps)=true)
  (h:wpList P ops Q rest (a.put op.dst (.agg cs.toArray)) w):wpList P ops Q (op::rest) a w:=by
 refine wpList_step fun K hK => ?_
 simp only[hgd,if_true]
 exact wp_load_mid ty x ho b o hx cs d hc hu hd hi (hK _ _ h)
theorem load8{ops:Array Oper}{rest:List Oper}{op:Oper}{a:Act}{w:World}{Q:Exit->Act->World->Prop}(p:Operand)(ho:op.op = .load 26 p)
  (b:Nat) (hx:a.eval p = .pointer (some ⟨b,0,none⟩)) (x:List Nat) (hc:Hx w b x) (hL:x.length=8) (hgd:Region.wanted op (yielded ops a.tmps)=true)
  (h:wpList Tryz.prog ops Q rest (a.put op.dst (.agg (cu x).toArray)) w):wpList Tryz.prog ops Q (op::rest) a w :=
 wpList_load_g 26 p ho b 0 hx (cu x) _ hc.range Tryz.underlying26 rfl (info_of hL) hgd h
theorem u16_under:Tryz.prog.underlying 25=some (.int .u16):=Tryz.underlying25
theorem part8(x:List Nat)(w:World)(i:Nat)(h:i<x.length):(part 25 (cu x).toArray i).run Tryz.prog w = .ok (.int .u16 (nth x i:Int)) w :=
 run_part_plain w (by kernel_rfl) (by rw[List.getElem?_toArray,cu_get h])
theorem items_eq(x y:List Nat)(w:World)(d:Nat):∀ is:List Nat,(∀ i∈is,i<x.length/\i<y.length)->(Op.eqItems (d+1) 25 1 (cu x).toArray (cu y).toArray is).run Tryz.prog w = .ok (is.all fun i=>(nth x i:Int)==(nth y i:Int)) w
 | [],_=>by simp[Op.eqItems]
 | i :: is, h => by
  have hi:=h i (List.mem_cons_self ..)
  have ih:=items_eq x y w d is fun j hj=>h j (List.mem_cons_of_mem _ hj)
  simp only[Op.eqItems,Sem.run_bind,Nat.mul_one,part8 x w i hi.1,part8 y w i hi.2,Result.andThen_ok,run_equalIn_int w d 25 .u16 .u16 _ _ u16_under]
  rw[List.all_cons]
  cases hq:((nth x i:Int)==(nth y i:Int)) with
  | true =>
   simp only[Bool.not_true,Bool.false_eq_true,if_false,Bool.true_and]
   exact ih
  | false=>simp
theorem all_range(x y:List Nat)(h:x.length=y.length):((List.range x.length).all fun i=>(nth x i:Int)==(nth y i:Int))=decide (x=y):=by
 rw[Bool.eq_iff_iff,decide_eq_true_eq,List.all_eq_true]
 constructor
 ·intro k
  refine List.ext_getElem h fun i h1 h2 => ?_
  have:=eq_of_beq (k i (List.mem_range.2 h1))
  rw[nth,nth,List.getD,List.getD,List.getElem?_eq_getElem h1,List.getElem?_eq_getElem h2]at this
  simp only[Option.getD_some]at this
  omega
 ·rintro rfl i _
  simp
end Go.Proofs.YtkibdkfdffkkfaaGreatDoor.Sx
namespace Go.Proofs.YtkibdkfdffkkfaaGreatDoor.Sx
open Go.RowKit Go.Shelf
def cutLaid_ren:Ren:=⟨fun|145=>142|220=>188|219=>127|217=>84|225=>107|224=>106|267=>179|266=>141|314=>230|n=>n,fun|9=>9|4=>4|59=>180|3=>3|5=>5|46=>41|146=>171|51=>24|n=>n,fun|1=>1|n=>n⟩
theorem cutLaid:Lays.n145 Tryz.prog cutLaid_ren:={
 mixed:=by kernel_rfl
 f145:=by kernel_rfl
 f217:=by kernel_rfl
 f219:=by kernel_rfl
 f220:=by kernel_rfl
 f224:=by kernel_rfl
 f225:=by kernel_rfl
 f266:=by kernel_rfl
 f267:=by kernel_rfl
 f314:=by kernel_rfl
 t3:=Tryz.underlying3
 a3:=Tryz.isAgg3
 z3:=Tryz.sizeOf3
 v3:=Tryz.zeroValue3
 t4:=Tryz.underlying4
 a4:=Tryz.isAgg4
 z4:=Tryz.sizeOf4
 v4:=Tryz.zeroValue4
 t5:=Tryz.underlying5
 a5:=Tryz.isAgg5
 z5:=Tryz.sizeOf5
 v5:=Tryz.zeroValue5
 t9:=Tryz.underlying9
 a9:=Tryz.isAgg9
 z9:=Tryz.sizeOf9
 v9:=Tryz.zeroValue9
 t46:=Tryz.underlying41
 a46:=Tryz.isAgg41
 z46:=Tryz.sizeOf41
 v46:=Tryz.zeroValue41
 t51:=Tryz.underlying24
 a51:=Tryz.isAgg24
 z51:=Tryz.sizeOf24
 v51:=Tryz.zeroValue24
 t59:=Tryz.underlying180
 a59:=Tryz.isAgg180
 z59:=Tryz.sizeOf180
 v59:=Tryz.zeroValue180
 t146:=Tryz.underlying171
 a146:=Tryz.isAgg171
 z146:=Tryz.sizeOf171
 v146:=Tryz.zeroValue171
 g1:=by kernel_rfl
}
def conLaid_ren:Ren:=⟨fun|144=>34|143=>75|219=>127|217=>84|225=>107|224=>106|267=>179|266=>141|314=>230|n=>n,fun|9=>9|4=>4|3=>3|5=>5|46=>41|146=>171|51=>24|n=>n,fun|1=>1|n=>n⟩
theorem conLaid:Lays.n144 Tryz.prog conLaid_ren:={
 mixed:=by kernel_rfl
 f143:=by kernel_rfl
 f144:=by kernel_rfl
 f217:=by kernel_rfl
 f219:=by kernel_rfl
 f224:=by kernel_rfl
 f225:=by kernel_rfl
 f266:=by kernel_rfl
 f267:=by kernel_rfl
 f314:=by kernel_rfl
 t3:=Tryz.underlying3
 a3:=Tryz.isAgg3
 z3:=Tryz.sizeOf3
 v3:=Tryz.zeroValue3
 t4:=Tryz.underlying4
 a4:=Tryz.isAgg4
 z4:=Tryz.sizeOf4
 v4:=Tryz.zeroValue4
 t5:=Tryz.underlying5
 a5:=Tryz.isAgg5
 z5:=Tryz.sizeOf5
 v5:=Tryz.zeroValue5
 t9:=Tryz.underlying9
 a9:=Tryz.isAgg9
 z9:=Tryz.sizeOf9
 v9:=Tryz.zeroValue9
 t46:=Tryz.underlying41
 a46:=Tryz.isAgg41
 z46:=Tryz.sizeOf41
 v46:=Tryz.zeroValue41
 t51:=Tryz.underlying24
 a51:=Tryz.isAgg24
 z51:=Tryz.sizeOf24
 v51:=Tryz.zeroValue24
 t146:=Tryz.underlying171
 a146:=Tryz.isAgg171
 z146:=Tryz.sizeOf171
 v146:=Tryz.zeroValue171
 g1:=by kernel_rfl
}
def spnLaid_ren:Ren:=⟨fun|147=>266|221=>298|268=>333|138=>334|143=>75|195=>371|197=>97|218=>372|219=>127|260=>155|217=>84|225=>107|224=>106|267=>179|266=>141|314=>230|n=>n,fun|9=>9|3=>3|31=>45|4=>4|0=>0|105=>130|21=>21|5=>5|46=>41|119=>241|139=>244|138=>243|146=>171|51=>24|n=>n,fun|1=>1|3=>3|4=>4|n=>n⟩
theorem spnLaid:Lays.n147 Tryz.prog spnLaid_ren:={
 mixed:=by kernel_rfl
 f138:=by kernel_rfl
 f143:=by kernel_rfl
 f147:=by kernel_rfl
 f195:=by kernel_rfl
 f197:=by kernel_rfl
 f217:=by kernel_rfl
 f218:=by kernel_rfl
 f219:=by kernel_rfl
 f221:=by kernel_rfl
 f224:=by kernel_rfl
 f225:=by kernel_rfl
 f260:=by kernel_rfl
 f266:=by kernel_rfl
 f267:=by kernel_rfl
 f268:=by kernel_rfl
 f314:=by kernel_rfl
 t0:=Tryz.underlying0
 a0:=Tryz.isAgg0
 z0:=Tryz.sizeOf0
 v0:=Tryz.zeroValue0
 t3:=Tryz.underlying3
 a3:=Tryz.isAgg3
 z3:=Tryz.sizeOf3
 v3:=Tryz.zeroValue3
 t4:=Tryz.underlying4
 a4:=Tryz.isAgg4
 z4:=Tryz.sizeOf4
 v4:=Tryz.zeroValue4
 t5:=Tryz.underlying5
 a5:=Tryz.isAgg5
 z5:=Tryz.sizeOf5
 v5:=Tryz.zeroValue5
 t9:=Tryz.underlying9
 a9:=Tryz.isAgg9
 z9:=Tryz.sizeOf9
 v9:=Tryz.zeroValue9
 t21:=Tryz.underlying21
 a21:=Tryz.isAgg21
 z21:=Tryz.sizeOf21
 v21:=Tryz.zeroValue21
 t31:=Tryz.underlying45
 a31:=Tryz.isAgg45
 z31:=Tryz.sizeOf45
 v31:=Tryz.zeroValue45
 t46:=Tryz.underlying41
 a46:=Tryz.isAgg41
 z46:=Tryz.sizeOf41
 v46:=Tryz.zeroValue41
 t51:=Tryz.underlying24
 a51:=Tryz.isAgg24
 z51:=Tryz.sizeOf24
 v51:=Tryz.zeroValue24
 t105:=Tryz.underlying130
 a105:=Tryz.isAgg130
 z105:=Tryz.sizeOf130
 v105:=Tryz.zeroValue130
 t119:=Tryz.underlying241
 a119:=Tryz.isAgg241
 z119:=Tryz.sizeOf241
 t138:=Tryz.underlying243
 a138:=Tryz.isAgg243
 z138:=Tryz.sizeOf243
 v138:=Tryz.zeroValue243
 t139:=Tryz.underlying244
 a139:=Tryz.isAgg244
 z139:=Tryz.sizeOf244
 v139:=Tryz.zeroValue244
 t146:=Tryz.underlying171
 a146:=Tryz.isAgg171
 z146:=Tryz.sizeOf171
 v146:=Tryz.zeroValue171
 g1:=by kernel_rfl
 g3:=by kernel_rfl
 g4:=by kernel_rfl
}
def PowIs (w : World) : Prop := Lib.TabIs Tryz.prog w "internal/strconv.uint64pow10" .u64 Lib.pow10Tab
theorem tab_go{P:Program}{w w':World}{m:Nat}{name:String}{k:IntKind}{zs:List Int}(h:Lib.TabIs P w name k zs)(hm:w.heap.size<=m)(hb:Below m w w'):Lib.TabIs P w' name k zs:=by
 unfold Lib.TabIs World.var? at h ⊢
 cases hg:P.globalNamed name with
 | none=>rw[hg]at h;cases h
 | some g =>
  rw[hg]at h
  simp only[Option.bind_some]at h ⊢
  have hlt:g<w.heap.size:=by
   refine Nat.lt_of_not_le fun hle => ?_
   rw[Array.getElem?_eq_none hle]at h
   cases h
  rw[hb.block g (by omega)]
  exact h
theorem cell_lt{W:World}{b i:Nat}{v:Value}(h:W.cell? ⟨b,i,none⟩=some v):b<W.heap.size:=by
 rcases Nat.lt_or_ge b W.heap.size with h'|h'
 ·exact h'
 ·unfold World.cell? at h
  simp[Array.getElem?_eq_none h']at h
theorem cell_go{w w':World}{m b i:Nat}{v:Value}(h:w.cell? ⟨b,i,none⟩=some v)(hm:w.heap.size<=m)(hB:Below m w w'):w'.cell? ⟨b,i,none⟩=some v :=
 (hB.cell (p:=⟨b,i,none⟩) (Nat.lt_of_lt_of_le (cell_lt h) hm)).trans h
structure Env (w:World):Prop where
 max:∃ m,w.cell? ⟨1,0,none⟩=some (.int .i64 m)
 syn:∃ te pe,w.cell? ⟨7,0,none⟩=some (.iface te pe)
 ran:∃ te pe,w.cell? ⟨8,0,none⟩=some (.iface te pe)
 pow:PowIs w
 bru:w.cell? ⟨6,15,none⟩=some (.int .u8 4)
theorem Env.gom{w w':World}{m:Nat}(h:Env w)(hm:w.heap.size<=m)(hB:Below m w w'):Env w' where
 max:=let ⟨k,hk⟩:=h.max;⟨k,cell_go hk hm hB⟩
 syn:=let ⟨a,b,hk⟩:=h.syn;⟨a,b,cell_go hk hm hB⟩
 ran:=let ⟨a,b,hk⟩:=h.ran;⟨a,b,cell_go hk hm hB⟩
 pow:=tab_go h.pow hm hB
 bru:=cell_go h.bru hm hB
theorem Env.go{w w':World}(h:Env w)(hB:Below w.heap.size w w'):Env w':=h.gom (Nat.le_refl _) hB
def CutR (s:ByteArray) (o:Option (List UInt8 × List UInt8)) (w:World) (e:Ending) (w':World):Prop :=
 (e=match o with|some p => .returned (.tuple #[.string (bs p.1),.string (bs p.2),.bool true])|none => .returned (.tuple #[.string s,.string ⟨#[]⟩,.bool false]))/\Below w.heap.size w w'
theorem Cut_any(s sep:ByteArray)(hsep:dl sep≠[])(hs:s.size<=1000000)(w:World)(hE:Env w):Calls Tryz.prog 142 #[.string s,.string sep] w (CutR s (cutg (dl sep) (dl s)) w):=by
 obtain⟨m,hm⟩:=hE.max
 refine (Any.strings_Cut cutLaid s sep m w (by omega) hm).mono ?_
 rintro e w' ⟨rfl,n,rfl⟩
 refine⟨?_,below_drewN w n⟩
 rw[cut_eq hsep]
 cases h:cutg (dl sep) (dl s) with
 | none=>show _=Ending.returned (.tuple #[.string s,.string ⟨#[]⟩,.bool false]);exact congrArg (fun t=>Ending.returned (.tuple #[.string t,.string ⟨#[]⟩,.bool false])) (bs_dl s)
 | some p=>rfl
theorem Contains_any(s sep:ByteArray)(hsep:dl sep≠[])(hs:s.size<=1000000)(w:World)(hE:Env w):Calls Tryz.prog 34 #[.string s,.string sep] w (fun e w'=>e = .returned (.bool (cutg (dl sep) (dl s)).isSome)/\w'=w):=by
 obtain⟨m,hm⟩:=hE.max
 refine (Any.strings_Contains conLaid s sep m w (by omega) hm).mono ?_
 rintro e w' ⟨rfl,rfl⟩
 exact⟨by rw[contains_eq hsep],rfl⟩
theorem info_s:(Tryz.prog.info? 9).map (fun i=>(i.zero,i.size,i.bytes))=some (some (.string ByteArray.empty),1,16):=by kernel_rfl
theorem info_u:(Tryz.prog.info? 25).map (fun i=>(i.zero,i.size,i.bytes))=some (some (.int .u16 0),1,2):=by kernel_rfl
theorem arr8:Tryz.prog.arrayLen 26=8:=by kernel_rfl
theorem elem8:Tryz.prog.elem 26=25:=by kernel_rfl
theorem under8:Tryz.prog.underlying 26=some (.array (Tryz.prog.arrayLen 26) (Tryz.prog.elem 26)):=by rw[arr8,elem8];exact Tryz.underlying26
def off (k:Nat):Nat:=if k=8 then 0 else k
theorem off_lt{k:Nat}(h:k<8):off k=k:=if_neg (by omega)
theorem size16(W:World):(sizeOf 25).run Tryz.prog W = .ok 1 W:=by kernel_rfl
theorem sl_l(B k:Nat)(hk:k<=8)(W:World):(Instr.sliceAt 26 (.pointer (some ⟨B,0,none⟩)) (some (.int .i64 (k:Int))) none none).run Tryz.prog W = .ok (.slice (some ⟨B,off k,none⟩) (8-k) (8-k)) W:=by
 rw[run_sliceAt_array_l W 26 ⟨B,0,none⟩ under8 .i64 (k:Int) (by omega) (by rw[arr8];omega),arr8,elem8,size16]
 unfold off slicedAt
 by_cases h:k=8
 ·subst h;simp[Result.andThen]
 ·have h2:¬ 8=k:=fun e=>h e.symm
  simp[Result.andThen,h,h2,Addr.add]
  exact fun e=>e.symm
theorem sl_all(B:Nat)(W:World):(Instr.sliceAt 26 (.pointer (some ⟨B,0,none⟩)) none none none).run Tryz.prog W = .ok (.slice (some ⟨B,0,none⟩) 8 8) W:=by
 rw[run_sliceAt_array_all W 26 ⟨B,0,none⟩ under8,arr8,elem8,size16]
 unfold slicedAt
 simp[Result.andThen,Addr.add]
theorem info16:(Tryz.prog.info? 25).map (·.size)=some 1:=by kernel_rfl
end Go.Proofs.YtkibdkfdffkkfaaGreatDoor.Sx
namespace Go.Proofs.YtkibdkfdffkkfaaGreatDoor.Sx
open Go.RowKit
theorem pow_gn : Tryz.prog.globalNamed "internal/strconv.uint64pow10" = some 2 := by kernel_rfl
theorem pow_gt:(Tryz.prog.globals[2]?).map (·.type)=some 217:=by kernel_rfl
theorem pow_ct:Tryz.prog.cellsOf 217=20:=by kernel_rfl
theorem pow_ce:Tryz.prog.cellsOf 72=1:=by kernel_rfl
theorem pow_datum:(Rows.laid_internal_strconv_uint64pow10:DataW Unit)=Lib.tabData .u64 Lib.pow10Tab:=by kernel_rfl
theorem powIs_of_reads {W : World} (h : Lib.VarReads Tryz.prog W "internal/strconv.uint64pow10" Rows.laid_internal_strconv_uint64pow10) : PowIs W := by
 obtain⟨gv,t,cs,fuel,p,hg,ht,hv,hd⟩:=h
 obtain rfl:=Option.some.inj (pow_gn.symm.trans hg)
 obtain rfl:=Option.some.inj (pow_gt.symm.trans ht)
 rw[pow_datum]at hd
 unfold PowIs Lib.TabIs
 rw[hv,<-Lib.cells_of_tab Tryz.underlying217 Tryz.underlying72 pow_ce pow_ct hd]
def bruL:List Int:=Lib.deBruijn64tab.map Int.ofNat
theorem bru_gn : Tryz.prog.globalNamed "math/bits.deBruijn64tab" = some 6 := by kernel_rfl
theorem bru_gt:(Tryz.prog.globals[6]?).map (·.type)=some 296:=by kernel_rfl
theorem bru_ct:Tryz.prog.cellsOf 296=64:=by kernel_rfl
theorem bru_ce:Tryz.prog.cellsOf 5=1:=by kernel_rfl
theorem bru_datum:(Rows.laid_math_bits_deBruijn64tab:DataW Unit)=Lib.tabData .u8 bruL:=by kernel_rfl
theorem bru_of_reads {W : World} (h : Lib.VarReads Tryz.prog W "math/bits.deBruijn64tab" Rows.laid_math_bits_deBruijn64tab) : W.cell? ⟨6, 15, none⟩ = some (.int .u8 4) := by
 obtain⟨gv,t,cs,fuel,p,hg,ht,hv,hd⟩:=h
 obtain rfl:=Option.some.inj (bru_gn.symm.trans hg)
 obtain rfl:=Option.some.inj (bru_gt.symm.trans ht)
 rw[bru_datum]at hd
 have hcs:=Lib.cells_of_tab Tryz.underlying296 Tryz.underlying5 bru_ce bru_ct hd
 rw[World.var?_cell hg hv 15,<-Array.getElem?_toList,hcs]
 rfl
theorem err_of{W:World}{name:String}{g:Nat}{nm:String}{d:DataW Unit}(hgn:Tryz.prog.globalNamed name=some g)(hgt:(Tryz.prog.globals[g]?).map (·.type)=some 87)(h:Lib.VarReads Tryz.prog W name (.iface nm d)):∃ te pe,W.cell? ⟨g,0,none⟩=some (.iface te pe):=by
 obtain⟨gv,t,cs,fuel,p,hg,ht,hv,hd⟩:=h
 obtain rfl:=Option.some.inj (hgn.symm.trans hg)
 obtain rfl:=Option.some.inj (hgt.symm.trans ht)
 obtain⟨f',u,v,hcs,_,_⟩:=iface_of_trod Tryz.underlying87 hd
 exact⟨u,v,by rw[World.var?_cell hg hv 0,<-Array.getElem?_toList,hcs];rfl⟩
theorem max_of{W:World}(h:W.ShapedOpen Tryz.prog):∃ m,W.cell? ⟨1,0,none⟩=some (.int .i64 m) :=
 cell_of_shapedOpen_int (zero:=#[.int .i64 0]) (t:=3) h (of_decide_eq_true (by kernel_rfl)) (by kernel_rfl) rfl (by kernel_rfl) (by kernel_rfl) Tryz.underlying3
theorem env_of {W : World} (h : W.ShapedOpen Tryz.prog) (h1 : Lib.VarReads Tryz.prog W "math/bits.deBruijn64tab" Rows.laid_math_bits_deBruijn64tab) (h2 : Lib.VarReads Tryz.prog W "internal/strconv.uint64pow10" Rows.laid_internal_strconv_uint64pow10)
  (h3 : Lib.VarReads Tryz.prog W "strconv.ErrRange" Rows.laid_strconv_ErrRange) (h4 : Lib.VarReads Tryz.prog W "strconv.ErrSyntax" Rows.laid_strconv_ErrSyntax) : Env W where
 max:=max_of h
 syn:=err_of (by kernel_rfl) (by kernel_rfl) h4
 ran:=err_of (by kernel_rfl) (by kernel_rfl) h3
 pow:=powIs_of_reads h2
 bru:=bru_of_reads h1
theorem returnsIn_and_shaped{H:Type}{enc:TypeId × Value->H}{a:Assume}{C:Checked}{os:Os}{f:FuncId}{fn:Func}{s:ChangeSpec}{conds:List PathCond}{apart fresh handsOn again:Bool}{X:World->Array Value->Prop}
  (hX:∀ (w w':World) (args:Array Value),w.heap=w'.heap->X w args->X w' args)
  (own:ownKnob C.prog.godebug=none) (started:os.Started) (noInit:C.prog.inits.idxOf? f=none) (hfn:C.prog.funcs[f]? = some fn)
  (witness:∃ (w:World) (tape:Tape) (i:Input),w.os=os/\(w.forCall tape i).Shaped C.prog/\i.vars=[]/\Input.okWide C.prog (w.forCall tape i) .any w.heap.size f i /\
   ((s.pre enc C.prog fn conds apart (w.forCall tape i).memory i.args/\X (w.forCall tape i).memory i.args)/\sizedMet enc C.prog fn (OpenSpec.ofChange s) apart (w.forCall tape i).memory i.args)/\a.holds C.prog (lone (Frame.enter C.prog f i.args .normal) [] (w.forCall tape i)))
  (contract:∀ (W:World) (base:Nat) (args:Array Value) (ds gs:List (DataW H)) (before:List MemPlace),
   (∀ (j:Nat) t v,fn.params[j]? = some t->args[j]? = some v->Value.okWide C.prog W .any base t v) ->
   DataW.Whole enc C.prog fn.params.toList s.vars apart W args.toList ds gs before ->
   conds.all (PathCond.test C.prog ⟨fn.params.toList,ds,s.plain.varTypes C.prog,gs⟩)=true ->
   (DataW.weightsEach C.prog (fn.params.toList++s.plain.varTypes C.prog) (ds++gs)).all (·<=reachBytes)=true->X W args->W.ShapedOpen C.prog ->
   a.holds C.prog (lone (Frame.enter C.prog f args .normal) [] W) ->
   Calls C.prog f args W fun e W' => ∃ v,e = .returned v/\s.post enc C.prog fn apart fresh handsOn again W args v W') :
  ReturnsInHanded a C os f .any (fun w args=>(s.pre enc C.prog fn conds apart w args/\X w args)/\sizedMet enc C.prog fn (OpenSpec.ofChange s) apart w args) (s.post enc C.prog fn apart fresh handsOn again):=by
 refine returnsInHanded_of_calls own started noInit witness ?_
 intro w tape i _ hsh _ hok hpre hholds
 obtain⟨_,_,_,fn',hfn',_,_,_,_,hval⟩:=hok
 obtain rfl:fn'=fn:=Option.some.inj (hfn'.symm.trans hfn)
 obtain⟨⟨⟨ds,gs,before,hw,hc⟩,hx⟩,hz⟩:=hpre
 refine (contract _ w.heap.size i.args ds gs before hval (DataW.Whole.of_heap (w':=w.forCall tape i) (by rfl) hw) hc (hz.weights hw) (hX _ _ _ (by rfl) hx) hsh hholds).mono fun e W' h => ?_
 obtain⟨v,rfl,hp⟩:=h
 exact ChangeSpec.post_blind hp
end Go.Proofs.YtkibdkfdffkkfaaGreatDoor.Sx
