import Derived.Test.YtediahdedmkehaaGreatDoorPk07
import Derived.Test.YtediahdedmkehaaGreatDoorPk02
import Derived.Test.YtediahdedmkehaaGreatDoorPk05
import Derived.Deep.MidRow
import Derived.Deep.LoopGhost
import Derived.Deep.DeepCutAuto
import Derived.Deep.RegionLaw
import Derived.Laws.CopyOwn
import Derived.Shelf.Strings.OnBuilder
import Derived.Shelf.Strings.Cut
import Derived.Shelf.Strings.Count
import Derived.Shelf.Strings.Split
import Derived.Shelf.Strings.Repeat
import Derived.Shelf.Strings.SlTrimAscii
import Derived.Shelf.Strconv.Itoa3
import Derived.Lib.AppendIntMem
import Derived.Shelf.Spec.TrailingZeros
set_option maxRecDepth 100000
set_option maxHeartbeats 8000000
namespace Go.Proofs.YtediahdedmkehaaGreatDoor.Sx
open Go.RowKit
abbrev dl (s:ByteArray):List UInt8:=s.data.toList
theorem bytes_ext{s t:ByteArray}:s=t↔s.data.toList=t.data.toList:=⟨fun h=>by rw[h],fun h=>by cases s;cases t;simpa using h⟩
def bs (l:List UInt8):ByteArray:=⟨l.toArray⟩
theorem bs_data(l:List UInt8):(bs l).data.toList=l:=by simp[bs]
theorem bs_dl(s:ByteArray):bs (dl s)=s:=by simp[bs,dl]
theorem bs_size(l:List UInt8):(bs l).size=l.length:=by rw[Lib.size_eq,bs_data]
theorem ext_take(s:ByteArray)(i:Nat):(s.extract 0 i).data.toList=s.data.toList.take i:=by simp[ByteArray.data_extract]
theorem ext_drop(s:ByteArray)(i j:Nat)(h:j=s.size):(s.extract i j).data.toList=s.data.toList.drop i:=by
 subst h
 simp[ByteArray.data_extract]
 exact List.take_of_length_le (by simp)
theorem get_dl{s:ByteArray}{k:Nat}(h:k<s.size):s[k]=(dl s)[k]'(by simpa using h):=by simp[dl];rfl
theorem app_dl(s t:ByteArray):dl (s++t)=dl s++dl t:=by simp[dl]
theorem byte_eq{c:UInt8}{k:Nat}(_:k<256)(h:((c.toNat:Int)==(k:Int))=true):c=UInt8.ofNat k:=by
 have:c.toNat=k:=by have:=eq_of_beq h;omega
 rw[<-this];simp
theorem byte_ne{c:UInt8}{k:Nat}(_:k<256)(h:((c.toNat:Int)==(k:Int))=false):c≠UInt8.ofNat k:=by
 rintro rfl
 simp at h
 omega
theorem upB{w w1 w2:World}(h:Below w.heap.size w w1)(k:Below w1.heap.size w1 w2):Below w.heap.size w w2:=h.trans (k.mono h.size)
theorem upA(w:World)(o:Obj):Below w.heap.size w (w.alloc o):=(Below.refl _ w).alloc (Nat.le_refl _) o
theorem below_drewN(w:World)(n:Nat):Below w.heap.size w (w.drewN n):=⟨rfl,rfl,rfl,Nat.le_refl _,fun _ _=>rfl⟩
def Texts (l:List UInt8) (w:World) (e:Ending) (w':World):Prop:=e = .returned (.string (bs l))/\Below w.heap.size w w'
def Tells (v:Value) (w:World) (e:Ending) (w':World):Prop:=e = .returned v/\Below w.heap.size w w'
def nth (x:List Nat) (k:Nat):Nat:=x.getD k 1
def cu (x:List Nat):List Value:=x.map fun n:Nat=>Value.int .u16 (n:Int)
theorem cu_len(x:List Nat):(cu x).length=x.length:=by rw[cu,List.length_map]
theorem cu_get{x:List Nat}{k:Nat}(h:k<x.length):(cu x)[k]? = some (.int .u16 (nth x k:Int)):=by
 rw[cu,List.getElem?_map,nth,List.getD,List.getElem?_eq_getElem h]
 rfl
theorem cu_app(x y:List Nat):cu (x++y)=cu x++cu y:=List.map_append
theorem one_cu(x:List Nat):∀ u∈cu x,u.oneCell'=true:=by
 intro u hu
 obtain⟨n,_,rfl⟩:=List.mem_map.1 hu
 rfl
theorem oneA(x:List Nat):(cu x).toArray.all (·.oneCell')=true:=all_oneCell_toArray (one_cu x)
theorem nth_mem{x:List Nat}{k:Nat}(h:k<x.length):nth x k∈x:=by
 rw[nth,List.getD,List.getElem?_eq_getElem h]
 exact List.getElem_mem h
theorem zr_nth{x:List Nat}{k n:Nat}:zr x k n↔∀ i,k<=i->i<k+n->nth x i=0:=Iff.rfl
abbrev av (x:List Nat):Value:=.agg (cu x).toArray
def z8:List Nat:=[0,0,0,0,0,0,0,0]
def Hx (w:World) (B:Nat) (x:List Nat):Prop:=w.heap[B]? = some (.cells (cu x).toArray 25 (0,0))
theorem Hx.new(w:World)(x:List Nat):Hx (w.alloc (.cells (cu x).toArray 25)) w.heap.size x:=World.alloc_heap_new w _
theorem Hx.lt{w:World}{B:Nat}{x:List Nat}(h:Hx w B x):B<w.heap.size:=(Array.getElem?_eq_some_iff.1 h).1
theorem Hx.go{a b:World}{B:Nat}{x:List Nat}(h:Hx a B x)(hb:Below a.heap.size a b):Hx b B x:=(hb.block _ h.lt).trans h
theorem Hx.gob{a b:World}{B m:Nat}{x:List Nat}(h:Hx a B x)(hB:B<m)(hb:Below m a b):Hx b B x:=(hb.block _ hB).trans h
theorem Hx.range{w:World}{B:Nat}{x:List Nat}(h:Hx w B x):w.rangeAt B 0 (cu x):=fun j v hv=>by
 rw[cell_of_row w B (0+j) _ _ _ h,Nat.zero_add,List.getElem?_toArray,hv]
theorem Hx.cell{w:World}{B:Nat}{x:List Nat}(h:Hx w B x){k:Nat}(hk:k<x.length):w.cell? ⟨B,k,none⟩=some (.int .u16 (nth x k:Int)):=by
 rw[cell_of_row w B k _ _ _ h,List.getElem?_toArray,cu_get hk]
theorem Hx.frozen{w:World}{B:Nat}{x:List Nat}(h:Hx w B x)(k:Nat):w.frozen? ⟨B,k,none⟩=false:=by
 unfold Hx at h
 simp[World.frozen?,h]
theorem Hx.there{w:World}{B:Nat}{x y:List Nat}(h:Hx w B x)(hy:y.length=x.length):w.there B 0 (cu y).toArray.size:=fun j hj=>by
 rw[Nat.zero_add]
 rw[List.size_toArray,cu_len,hy]at hj
 exact⟨by rw[h.cell hj];rfl,h.frozen j⟩
theorem Hx.row{w:World}{B:Nat}{x:List Nat}(h:Hx w B x)(k:Nat)(y:List Nat)(hy:∀ j,j<y.length->k+j<x.length/\nth x (k+j)=nth y j):Row w w.heap.size (some ⟨B,k,none⟩) (cu y):=by
 refine .inr ⟨B,k,rfl,h.lt,fun j hj => ?_⟩
 rw[cu_len]at hj
 obtain⟨h1,h2⟩:=hy j hj
 rw[h.cell h1,cu_get hj,h2]
theorem nth_take{x:List Nat}{k j:Nat}(h:j<k):nth (x.take k) j=nth x j:=by
 simp[nth,List.getD,h]
theorem nth_drop(x:List Nat)(k j:Nat):nth (x.drop k) j=nth x (k+j):=by simp[nth,List.getD]
theorem Hx.take{w:World}{B:Nat}{x:List Nat}(h:Hx w B x)(k:Nat):Row w w.heap.size (some ⟨B,0,none⟩) (cu (x.take k)) :=
 h.row 0 _ fun j hj=>by
  rw[List.length_take]at hj
  rw[Nat.zero_add,nth_take (by omega)]
  exact⟨by omega,rfl⟩
theorem Hx.drop{w:World}{B:Nat}{x:List Nat}(h:Hx w B x)(k:Nat):Row w w.heap.size (some ⟨B,k,none⟩) (cu (x.drop k)) :=
 h.row k _ fun j hj=>by
  rw[List.length_drop]at hj
  rw[nth_drop]
  exact⟨by omega,rfl⟩
theorem info8:(Tryz.prog.info? 25).map (·.size)=some 8:=by kernel_rfl
theorem info_of{x:List Nat}(h:x.length=8):(Tryz.prog.info? 25).map (·.size)=some (cu x).length:=by rw[cu_len,h];exact info8
theorem info_ofA{x:List Nat}(h:x.length=8):(Tryz.prog.info? 25).map (·.size)=some (cu x).toArray.size:=by rw[List.size_toArray];exact info_of h
theorem results_cell{P:Program}{fn:Func}{k:Tmp}{t:TypeId}{tmps:Array Value}{w:World}{a:Addr}{v:Value}(h:fn.results=#[.cell k t])(hp:tmps.getD k undef = .pointer (some a))(hl:(loadVar t a).run P w = .ok v w):(results fn tmps).run P w = .ok v w:=by
 rw[Array.getD_eq_getD_getElem?]at hp
 simp[results,h]
 rw[hp]
 simp[asAddr,hl]
theorem below_setCells{B:Nat}{a:World}{b:Nat}(hB:B<=b):∀ (vs:List Value) (o:Nat) (w:World),Below B a w->Below B a (w.setCells b o vs)
 | [],_,_,h=>h
 | v :: r, o, w, h => by
  rw[World.setCells]
  exact below_setCells hB r (o+1) _ (h.setCell hB v)
theorem load_set{w:World}{B:Nat}{x y:List Nat}(h:Hx w B x)(hL:x.length=8)(hM:y.length=8):(loadVar 25 ⟨B,0,none⟩).run Tryz.prog (w.setCells B 0 (cu y)) = .ok (av y) (w.setCells B 0 (cu y)) :=
 run_loadVar_mid _ B 0 25 (cu y) _ (World.rangeAt_setCells_same w B 0 _ (by have:=h.there (y:=y) (by omega);rwa [List.size_toArray]at this)) Tryz.underlying25 rfl (info_of hM)
theorem wpList_load_g{P:Program}{ops:Array Oper}{rest:List Oper}{op:Oper}{a:Act}{w:World}{Q:Exit->Act->World->Prop}(ty:TypeId)(x:Operand)(ho:op.op = .load ty x)
  (b o:Nat) (hx:a.eval x = .pointer (some ⟨b,o,none⟩)) (cs:List Value) (d:TypeDesc) (hc:w.rangeAt b o cs)
  (hu:P.underlying ty=some d) (hd:d.isRow=true) (hi:(P.info? ty).map (·.size)=some cs.length) (hgd:Region.wanted op (yielded ops a.tmps)=true)
  (h:wpList P ops Q rest (a.put op.dst (.agg cs.toArray)) w):wpList P ops Q (op::rest) a w:=by
 refine wpList_step fun K hK => ?_
 simp only[hgd,if_true]
 exact wp_load_mid ty x ho b o hx cs d hc hu hd hi (hK _ _ h)
theorem load8{ops:Array Oper}{rest:List Oper}{op:Oper}{a:Act}{w:World}{Q:Exit->Act->World->Prop}(p:Operand)(ho:op.op = .load 25 p)
  (b:Nat) (hx:a.eval p = .pointer (some ⟨b,0,none⟩)) (x:List Nat) (hc:Hx w b x) (hL:x.length=8) (hgd:Region.wanted op (yielded ops a.tmps)=true)
  (h:wpList Tryz.prog ops Q rest (a.put op.dst (.agg (cu x).toArray)) w):wpList Tryz.prog ops Q (op::rest) a w :=
 wpList_load_g 25 p ho b 0 hx (cu x) _ hc.range Tryz.underlying25 rfl (info_of hL) hgd h
theorem u16_under:Tryz.prog.underlying 24=some (.int .u16):=Tryz.underlying24
theorem part8(x:List Nat)(w:World)(i:Nat)(h:i<x.length):(part 24 (cu x).toArray i).run Tryz.prog w = .ok (.int .u16 (nth x i:Int)) w :=
 run_part_plain w (by kernel_rfl) (by rw[List.getElem?_toArray,cu_get h])
theorem items_eq(x y:List Nat)(w:World)(d:Nat):∀ is:List Nat,(∀ i∈is,i<x.length/\i<y.length)->(Op.eqItems (d+1) 24 1 (cu x).toArray (cu y).toArray is).run Tryz.prog w = .ok (is.all fun i=>(nth x i:Int)==(nth y i:Int)) w
 | [],_=>by simp[Op.eqItems]
 | i :: is, h => by
  have hi:=h i (List.mem_cons_self ..)
  have ih:=items_eq x y w d is fun j hj=>h j (List.mem_cons_of_mem _ hj)
  simp only[Op.eqItems,Sem.run_bind,Nat.mul_one,part8 x w i hi.1,part8 y w i hi.2,Result.andThen_ok,run_equalIn_int w d 24 .u16 .u16 _ _ u16_under]
  rw[List.all_cons]
  cases hq:((nth x i:Int)==(nth y i:Int)) with
  | true =>
   simp only[Bool.not_true,Bool.false_eq_true,if_false,Bool.true_and]
   exact ih
  | false=>simp
theorem all_range(x y:List Nat)(h:x.length=y.length):((List.range x.length).all fun i=>(nth x i:Int)==(nth y i:Int))=decide (x=y):=by
 rw[Bool.eq_iff_iff,decide_eq_true_eq,List.all_eq_true]
 constructor
 ·intro k
  refine List.ext_getElem h fun i h1 h2 => ?_
  have:=eq_of_beq (k i (List.mem_range.2 h1))
  rw[nth,nth,List.getD,List.getD,List.getElem?_eq_getElem h1,List.getElem?_eq_getElem h2]at this
  simp only[Option.getD_some]at this
  omega
 ·rintro rfl i _
  simp
theorem equal8(x y:List Nat)(hL:x.length=8)(hM:y.length=8)(w:World):(Op.equalIn 10000 25 (av x) (av y)).run Tryz.prog w = .ok (decide (x=y)) w:=by
 obtain⟨i,hi⟩:∃ i,Tryz.prog.info? 24=some i:=Option.isSome_iff_exists.1 (by kernel_rfl)
 have e:=run_equalIn_array w 9999 (cu x).toArray (cu y).toArray Tryz.underlying25 hi
 rw[show Tryz.prog.cellsOf 24=1 by kernel_rfl,items_eq x y w 9998 (List.range 8) (fun i hi=>by have:=List.mem_range.1 hi;omega)]at e
 have h:=all_range x y (by omega)
 rw[hL]at h
 rw[h]at e
 exact e
end Go.Proofs.YtediahdedmkehaaGreatDoor.Sx
namespace Go.Proofs.YtediahdedmkehaaGreatDoor.Sx
open Go.RowKit Go.Shelf
def cutLaid_ren:Ren:=⟨fun|145=>118|220=>166|219=>208|217=>163|225=>112|224=>111|267=>249|266=>203|314=>289|n=>n,fun|9=>9|4=>4|59=>146|3=>3|5=>5|46=>42|146=>142|51=>23|n=>n,fun|1=>1|n=>n⟩
theorem cutLaid:Lays.n145 Tryz.prog cutLaid_ren:={
 mixed:=by kernel_rfl
 f145:=by kernel_rfl
 f217:=by kernel_rfl
 f219:=by kernel_rfl
 f220:=by kernel_rfl
 f224:=by kernel_rfl
 f225:=by kernel_rfl
 f266:=by kernel_rfl
 f267:=by kernel_rfl
 f314:=by kernel_rfl
 t3:=Tryz.underlying3
 a3:=Tryz.isAgg3
 z3:=Tryz.sizeOf3
 v3:=Tryz.zeroValue3
 t4:=Tryz.underlying4
 a4:=Tryz.isAgg4
 z4:=Tryz.sizeOf4
 v4:=Tryz.zeroValue4
 t5:=Tryz.underlying5
 a5:=Tryz.isAgg5
 z5:=Tryz.sizeOf5
 v5:=Tryz.zeroValue5
 t9:=Tryz.underlying9
 a9:=Tryz.isAgg9
 z9:=Tryz.sizeOf9
 v9:=Tryz.zeroValue9
 t46:=Tryz.underlying42
 a46:=Tryz.isAgg42
 z46:=Tryz.sizeOf42
 v46:=Tryz.zeroValue42
 t51:=Tryz.underlying23
 a51:=Tryz.isAgg23
 z51:=Tryz.sizeOf23
 v51:=Tryz.zeroValue23
 t59:=Tryz.underlying146
 a59:=Tryz.isAgg146
 z59:=Tryz.sizeOf146
 v59:=Tryz.zeroValue146
 t146:=Tryz.underlying142
 a146:=Tryz.isAgg142
 z146:=Tryz.sizeOf142
 v146:=Tryz.zeroValue142
 g1:=by kernel_rfl
}
def conLaid_ren:Ren:=⟨fun|144=>209|143=>250|219=>208|217=>163|225=>112|224=>111|267=>249|266=>203|314=>289|n=>n,fun|9=>9|4=>4|3=>3|5=>5|46=>42|146=>142|51=>23|n=>n,fun|1=>1|n=>n⟩
theorem conLaid:Lays.n144 Tryz.prog conLaid_ren:={
 mixed:=by kernel_rfl
 f143:=by kernel_rfl
 f144:=by kernel_rfl
 f217:=by kernel_rfl
 f219:=by kernel_rfl
 f224:=by kernel_rfl
 f225:=by kernel_rfl
 f266:=by kernel_rfl
 f267:=by kernel_rfl
 f314:=by kernel_rfl
 t3:=Tryz.underlying3
 a3:=Tryz.isAgg3
 z3:=Tryz.sizeOf3
 v3:=Tryz.zeroValue3
 t4:=Tryz.underlying4
 a4:=Tryz.isAgg4
 z4:=Tryz.sizeOf4
 v4:=Tryz.zeroValue4
 t5:=Tryz.underlying5
 a5:=Tryz.isAgg5
 z5:=Tryz.sizeOf5
 v5:=Tryz.zeroValue5
 t9:=Tryz.underlying9
 a9:=Tryz.isAgg9
 z9:=Tryz.sizeOf9
 v9:=Tryz.zeroValue9
 t46:=Tryz.underlying42
 a46:=Tryz.isAgg42
 z46:=Tryz.sizeOf42
 v46:=Tryz.zeroValue42
 t51:=Tryz.underlying23
 a51:=Tryz.isAgg23
 z51:=Tryz.sizeOf23
 v51:=Tryz.zeroValue23
 t146:=Tryz.underlying142
 a146:=Tryz.isAgg142
 z146:=Tryz.sizeOf142
 v146:=Tryz.zeroValue142
 g1:=by kernel_rfl
}
def spnLaid_ren:Ren:=⟨fun|147=>251|221=>290|268=>325|138=>326|143=>250|195=>364|197=>101|218=>365|219=>208|260=>156|217=>163|225=>112|224=>111|267=>249|266=>203|314=>289|n=>n,fun|9=>9|3=>3|31=>83|4=>4|0=>0|105=>125|21=>21|5=>5|46=>42|119=>218|139=>221|138=>220|146=>142|51=>23|n=>n,fun|1=>1|3=>2|4=>3|n=>n⟩
theorem spnLaid:Lays.n147 Tryz.prog spnLaid_ren:={
 mixed:=by kernel_rfl
 f138:=by kernel_rfl
 f143:=by kernel_rfl
 f147:=by kernel_rfl
 f195:=by kernel_rfl
 f197:=by kernel_rfl
 f217:=by kernel_rfl
 f218:=by kernel_rfl
 f219:=by kernel_rfl
 f221:=by kernel_rfl
 f224:=by kernel_rfl
 f225:=by kernel_rfl
 f260:=by kernel_rfl
 f266:=by kernel_rfl
 f267:=by kernel_rfl
 f268:=by kernel_rfl
 f314:=by kernel_rfl
 t0:=Tryz.underlying0
 a0:=Tryz.isAgg0
 z0:=Tryz.sizeOf0
 v0:=Tryz.zeroValue0
 t3:=Tryz.underlying3
 a3:=Tryz.isAgg3
 z3:=Tryz.sizeOf3
 v3:=Tryz.zeroValue3
 t4:=Tryz.underlying4
 a4:=Tryz.isAgg4
 z4:=Tryz.sizeOf4
 v4:=Tryz.zeroValue4
 t5:=Tryz.underlying5
 a5:=Tryz.isAgg5
 z5:=Tryz.sizeOf5
 v5:=Tryz.zeroValue5
 t9:=Tryz.underlying9
 a9:=Tryz.isAgg9
 z9:=Tryz.sizeOf9
 v9:=Tryz.zeroValue9
 t21:=Tryz.underlying21
 a21:=Tryz.isAgg21
 z21:=Tryz.sizeOf21
 v21:=Tryz.zeroValue21
 t31:=Tryz.underlying83
 a31:=Tryz.isAgg83
 z31:=Tryz.sizeOf83
 v31:=Tryz.zeroValue83
 t46:=Tryz.underlying42
 a46:=Tryz.isAgg42
 z46:=Tryz.sizeOf42
 v46:=Tryz.zeroValue42
 t51:=Tryz.underlying23
 a51:=Tryz.isAgg23
 z51:=Tryz.sizeOf23
 v51:=Tryz.zeroValue23
 t105:=Tryz.underlying125
 a105:=Tryz.isAgg125
 z105:=Tryz.sizeOf125
 v105:=Tryz.zeroValue125
 t119:=Tryz.underlying218
 a119:=Tryz.isAgg218
 z119:=Tryz.sizeOf218
 t138:=Tryz.underlying220
 a138:=Tryz.isAgg220
 z138:=Tryz.sizeOf220
 v138:=Tryz.zeroValue220
 t139:=Tryz.underlying221
 a139:=Tryz.isAgg221
 z139:=Tryz.sizeOf221
 v139:=Tryz.zeroValue221
 t146:=Tryz.underlying142
 a146:=Tryz.isAgg142
 z146:=Tryz.sizeOf142
 v146:=Tryz.zeroValue142
 g1:=by kernel_rfl
 g3:=by kernel_rfl
 g4:=by kernel_rfl
}
def joinLaid_ren:Ren:=⟨fun|156=>57|165=>45|166=>46|169=>48|240=>99|241=>100|276=>154|277=>155|n=>n,fun|31=>83|9=>9|3=>3|4=>4|0=>0|20=>20|72=>69|76=>73|70=>67|37=>41|75=>72|127=>124|164=>180|5=>5|80=>66|n=>n,fun n=>n⟩
theorem joinLaid:Lays.n156 Tryz.prog joinLaid_ren:={
 mixed:=by kernel_rfl
 f156:=by kernel_rfl
 f165:=by kernel_rfl
 f166:=by kernel_rfl
 f169:=by kernel_rfl
 f240:=by kernel_rfl
 f241:=by kernel_rfl
 f276:=by kernel_rfl
 f277:=by kernel_rfl
 t0:=Tryz.underlying0
 a0:=Tryz.isAgg0
 z0:=Tryz.sizeOf0
 v0:=Tryz.zeroValue0
 t3:=Tryz.underlying3
 a3:=Tryz.isAgg3
 z3:=Tryz.sizeOf3
 v3:=Tryz.zeroValue3
 t4:=Tryz.underlying4
 a4:=Tryz.isAgg4
 z4:=Tryz.sizeOf4
 v4:=Tryz.zeroValue4
 t9:=Tryz.underlying9
 a9:=Tryz.isAgg9
 z9:=Tryz.sizeOf9
 v9:=Tryz.zeroValue9
 t20:=Tryz.underlying20
 a20:=Tryz.isAgg20
 z20:=Tryz.sizeOf20
 v20:=Tryz.zeroValue20
 t31:=Tryz.underlying83
 a31:=Tryz.isAgg83
 z31:=Tryz.sizeOf83
 v31:=Tryz.zeroValue83
 t37:=Tryz.underlying41
 a37:=Tryz.isAgg41
 z37:=Tryz.sizeOf41
 v37:=Tryz.zeroValue41
 t70:=Tryz.underlying67
 a70:=Tryz.isAgg67
 z70:=Tryz.sizeOf67
 v70:=Tryz.zeroValue67
 t72:=Tryz.underlying69
 a72:=Tryz.isAgg69
 z72:=Tryz.sizeOf69
 v72:=Tryz.zeroValue69
 t75:=Tryz.underlying72
 a75:=Tryz.isAgg72
 z75:=Tryz.sizeOf72
 v75:=Tryz.zeroValue72
 t76:=Tryz.underlying73
 a76:=Tryz.isAgg73
 z76:=Tryz.sizeOf73
 v76:=Tryz.zeroValue73
 t127:=Tryz.underlying124
 a127:=Tryz.isAgg124
 z127:=Tryz.sizeOf124
 v127:=Tryz.zeroValue124
 t164:=Tryz.underlying180
 a164:=Tryz.isAgg180
 z164:=Tryz.sizeOf180
 v164:=Tryz.zeroValue180
}
theorem joinLaid_x:Builder.Extra Tryz.prog joinLaid_ren where
 sizeBuilder:=by kernel_rfl
 liesBuilder:=by kernel_rfl
 t5:=Tryz.underlying5
 a5:=Tryz.isAgg5
 z5:=Tryz.sizeOf5
 v5:=Tryz.zeroValue5
 infoByte:=by kernel_rfl
 cellsByte:=by kernel_rfl
 sizeByte:=by kernel_rfl
 neB5:=by decide
def PowIs (w : World) : Prop := Lib.TabIs Tryz.prog w "internal/strconv.uint64pow10" .u64 Lib.pow10Tab
theorem tab_go{P:Program}{w w':World}{m:Nat}{name:String}{k:IntKind}{zs:List Int}(h:Lib.TabIs P w name k zs)(hm:w.heap.size<=m)(hb:Below m w w'):Lib.TabIs P w' name k zs:=by
 unfold Lib.TabIs World.var? at h ⊢
 cases hg:P.globalNamed name with
 | none=>rw[hg]at h;cases h
 | some g =>
  rw[hg]at h
  simp only[Option.bind_some]at h ⊢
  have hlt:g<w.heap.size:=by
   refine Nat.lt_of_not_le fun hle => ?_
   rw[Array.getElem?_eq_none hle]at h
   cases h
  rw[hb.block g (by omega)]
  exact h
theorem cell_lt{W:World}{b i:Nat}{v:Value}(h:W.cell? ⟨b,i,none⟩=some v):b<W.heap.size:=by
 rcases Nat.lt_or_ge b W.heap.size with h'|h'
 ·exact h'
 ·unfold World.cell? at h
  simp[Array.getElem?_eq_none h']at h
theorem cell_go{w w':World}{m b i:Nat}{v:Value}(h:w.cell? ⟨b,i,none⟩=some v)(hm:w.heap.size<=m)(hB:Below m w w'):w'.cell? ⟨b,i,none⟩=some v :=
 (hB.cell (p:=⟨b,i,none⟩) (Nat.lt_of_lt_of_le (cell_lt h) hm)).trans h
structure Env (w:World):Prop where
 max:∃ m,w.cell? ⟨1,0,none⟩=some (.int .i64 m)
 syn:∃ te pe,w.cell? ⟨7,0,none⟩=some (.iface te pe)
 ran:∃ te pe,w.cell? ⟨8,0,none⟩=some (.iface te pe)
 pow:PowIs w
 bru:w.cell? ⟨6,15,none⟩=some (.int .u8 4)
theorem Env.gom{w w':World}{m:Nat}(h:Env w)(hm:w.heap.size<=m)(hB:Below m w w'):Env w' where
 max:=let ⟨k,hk⟩:=h.max;⟨k,cell_go hk hm hB⟩
 syn:=let ⟨a,b,hk⟩:=h.syn;⟨a,b,cell_go hk hm hB⟩
 ran:=let ⟨a,b,hk⟩:=h.ran;⟨a,b,cell_go hk hm hB⟩
 pow:=tab_go h.pow hm hB
 bru:=cell_go h.bru hm hB
theorem Env.go{w w':World}(h:Env w)(hB:Below w.heap.size w w'):Env w':=h.gom (Nat.le_refl _) hB
def CutR (s:ByteArray) (o:Option (List UInt8 × List UInt8)) (w:World) (e:Ending) (w':World):Prop :=
 (e=match o with|some p => .returned (.tuple #[.string (bs p.1),.string (bs p.2),.bool true])|none => .returned (.tuple #[.string s,.string ⟨#[]⟩,.bool false]))/\Below w.heap.size w w'
theorem Cut_any(s sep:ByteArray)(hsep:dl sep≠[])(hs:s.size<=1000000)(w:World)(hE:Env w):Calls Tryz.prog 118 #[.string s,.string sep] w (CutR s (cutg (dl sep) (dl s)) w):=by
 obtain⟨m,hm⟩:=hE.max
 refine (Any.strings_Cut cutLaid s sep m w (by omega) hm).mono ?_
 rintro e w' ⟨rfl,n,rfl⟩
 refine⟨?_,below_drewN w n⟩
 rw[cut_eq hsep]
 cases h:cutg (dl sep) (dl s) with
 | none=>show _=Ending.returned (.tuple #[.string s,.string ⟨#[]⟩,.bool false]);exact congrArg (fun t=>Ending.returned (.tuple #[.string t,.string ⟨#[]⟩,.bool false])) (bs_dl s)
 | some p=>rfl
theorem Contains_any(s sep:ByteArray)(hsep:dl sep≠[])(hs:s.size<=1000000)(w:World)(hE:Env w):Calls Tryz.prog 209 #[.string s,.string sep] w (fun e w'=>e = .returned (.bool (cutg (dl sep) (dl s)).isSome)/\w'=w):=by
 obtain⟨m,hm⟩:=hE.max
 refine (Any.strings_Contains conLaid s sep m w (by omega) hm).mono ?_
 rintro e w' ⟨rfl,rfl⟩
 exact⟨by rw[contains_eq hsep],rfl⟩
theorem info_s:(Tryz.prog.info? 9).map (fun i=>(i.zero,i.size,i.bytes))=some (some (.string ByteArray.empty),1,16):=by kernel_rfl
theorem Join_any(bk c:Nat)(xs:List ByteArray)(w:World)(hcells:∀ (j:Nat) x,xs[j]? = some x->w.cell? ⟨bk,j,none⟩=some (.string x))(hbk:bk<w.heap.size)(hN:xs.length<=1000)(hcap:xs.length<=c)
  (hlen:(jn (xs.map dl)).length<=1000000):Calls Tryz.prog 57 #[.slice (some ⟨bk,0,none⟩) xs.length c,.string ⟨#[58]⟩] w (Texts (jn (xs.map dl)) w) :=
 Any.strings_Join joinLaid joinLaid_x bk 0 c xs ⟨#[58]⟩ w (fun j x h=>by rw[Nat.zero_add];exact hcells j x h) hbk (by omega) hcap (Nat.le_trans hlen (by decide))
def BruIs (w:World):Prop:=w.cell? ⟨6,15,none⟩=some (.int .u8 4)
theorem BruIs.go{w w':World}{m:Nat}(h:BruIs w)(hm:w.heap.size<=m)(hB:Below m w w'):BruIs w':=cell_go h hm hB
theorem tz64_at(x k idx:Nat)(w:World)(hx0:((x:Int)==0)=false)
  (key:IntKind.u64.wrap (bits BinOp.and IntKind.u64 (x:Int) (IntKind.u64.wrap (-(x:Int)))*285870213051353865)/288230376151711744=(idx:Int))
  (hi:idx<64) (hk:k<64) (hcell:w.cell? ⟨6,idx,none⟩=some (.int .u8 k)) :
  Calls Tryz.prog 288 #[.int .u64 x] w fun e w'=>e = .returned (.int .i64 k)/\w'=w:=by
 go_enter Tryz.func288,Tryz.ntmps288
 go_wp2_with(simp only[key])
 go_ret
 exact⟨rfl,rfl⟩
theorem tz_at(b s:Nat)(hb:b=16/\s=4)(w:World)(hB:BruIs w):Calls Tryz.prog 248 #[.int .u64 (b:Int)] w fun e w'=>e = .returned (.int .i64 (s:Int))/\w'=w:=by
 have h64:Calls Tryz.prog 288 #[.int .u64 (b:Int)] w fun e w'=>e = .returned (.int .i64 (s:Int))/\w'=w:=by
  obtain⟨rfl,rfl⟩:=hb
  exact tz64_at 16 4 15 w (by decide) (tz64_key 16 16 (by decide) (by decide) (by decide)) (by decide) (by decide) hB
 have H:=Lib.hid h64
 clear h64 hB hb
 go_enter Tryz.func248,Tryz.ntmps248
 go_wp2_with fail
 refine H.out.mono ?_
 rintro e w1 ⟨rfl,rfl⟩
 go_wp2_with fail
 go_ret
 exact⟨rfl,rfl⟩
theorem pow_at(b s:Nat)(hb:b=16/\s=4)(w:World):Calls Tryz.prog 247 #[.int .i64 (b:Int)] w fun e w'=>e = .returned (.bool true)/\w'=w:=by
 obtain⟨rfl,rfl⟩:=hb
 go_enter Tryz.func247,Tryz.ntmps247
 go_wp2_with fail
 go_ret
 exact⟨rfl,rfl⟩
def lit36:ByteArray:=⟨#[48,49,50,51,52,53,54,55,56,57,97,98,99,100,101,102,103,104,105,106,107,108,109,110,111,112,113,114,115,116,117,118,119,120,121,122]⟩
theorem lit_get:∀ d:Fin 16,lit36[d.1]'(Nat.lt_trans d.2 (by decide))=dgB d.1:=by decide +kernel
def FB (b u h v i:Nat) (W:World):Prop:=∃ suf:List UInt8,i+suf.length=65/\digs b u=digs b v++suf/\v*b ^ suf.length<18446744073709551616/\(∀ j (hj:j<suf.length),W.cell? ⟨h,i+j,none⟩=some (.int .u8 (suf[j].toNat:Int)))/\(∀ j,j<65->∃ c,W.cell? ⟨h,j,none⟩=some c)/\(∀ j,W.frozen? ⟨h,j,none⟩=false)/\h<W.heap.size
theorem FB_put{b u h v i:Nat}{W:World}(hb2:2<=b)(hF:FB b u h v (i+1) W)(hv:b<=v):FB b u h (v/b) i (W.setCell ⟨h,i,none⟩ (.int .u8 ((dgB (v%b)).toNat:Int))):=by
 obtain⟨suf,h1,h2,h3,h4,h5,h6,h7⟩:=hF
 obtain⟨c,hc⟩:=h5 i (by omega)
 refine⟨dgB (v%b)::suf,by simp;omega, ?_, ?_, ?_, ?_, ?_, ?_⟩
 ·rw[h2,digs_ge hb2 (by omega)]
  simp
 ·rw[List.length_cons,Nat.pow_succ,Nat.mul_comm (b ^ suf.length) b,<-Nat.mul_assoc]
  exact Nat.lt_of_le_of_lt (Nat.mul_le_mul_right _ (Nat.div_mul_le_self v b)) h3
 ·intro j hj
  cases j with
  | zero=>exact World.cell?_setCell_same _ _ _ hc
  | succ j =>
   rw[World.cell?_setCell_other _ _ _ _ (by intro e;injection e;omega)]
   have:=h4 j (by simpa using hj)
   rw[show i+(j+1)=i+1+j by omega]
   exact this
 ·intro j hj
  by_cases e:j=i
  ·subst e
   exact⟨_,World.cell?_setCell_same _ _ _ hc⟩
  ·obtain⟨c',hc'⟩:=h5 j hj
   exact⟨c',(World.cell?_setCell_other _ _ _ _ (by intro e';injection e';omega)).trans hc'⟩
 ·intro j
  rw[World.frozen?_setCell]
  exact h6 j
 ·simpa[World.setCell] using h7
theorem FB_room{b u h v i:Nat}{W:World}(hb:8<=b)(hv:1<=v)(hF:FB b u h v i W):1<=i:=by
 obtain⟨suf,h1,h2,h3,_⟩:=hF
 have hp:8 ^ suf.length<=b ^ suf.length:=Nat.pow_le_pow_left hb _
 have h4:8 ^ suf.length<18446744073709551616:=Nat.lt_of_le_of_lt (Nat.le_trans hp (Nat.le_mul_of_pos_left _ hv)) h3
 have:suf.length<22:=by
  rcases Nat.lt_or_ge suf.length 22 with h|h
  ·exact h
  ·have:=Nat.pow_le_pow_right (n:=8) (by decide) h
   omega
 omega
theorem FB_end{b u h v i q:Nat}{W:World}(hF:FB b u h v (i+1) W)(hv:v<b)(hq:i+q=65) :
  (digs b u).length=q/\∀ j (hj:j<(digs b u).length),(W.setCell ⟨h,i,none⟩ (.int .u8 ((dgB v).toNat:Int))).cell? ⟨h,i+j,none⟩=some (.int .u8 ((digs b u)[j].toNat:Int)):=by
 obtain⟨suf,h1,h2,h3,h4,h5,h6,h7⟩:=hF
 obtain⟨c,hc⟩:=h5 i (by omega)
 rw[digs_lt hv]at h2
 refine⟨by rw[h2];simp;omega, ?_⟩
 rw[h2]
 intro j hj
 cases j with
 | zero=>exact World.cell?_setCell_same _ _ _ hc
 | succ j =>
  rw[World.cell?_setCell_other _ _ _ _ (by intro e;injection e;omega)]
  have:=h4 j (by simpa using hj)
  rw[show i+(j+1)=i+1+j by omega]
  exact this
theorem arr65:Tryz.prog.arrayLen 266=65:=by kernel_rfl
theorem slice_at(h i q:Nat)(hq:i+q=65)(hi:i<65)(W:World):(Instr.sliceAt 266 (.pointer (some ⟨h,0,none⟩)) (some (.int .i64 (i:Int))) none none).run Tryz.prog W = .ok (.slice (some ⟨h,i,none⟩) q q) W:=by
 rw[run_sliceAt_array_l W 266 ⟨h,0,none⟩ (by simp[Program.arrayLen,Program.elem,Tryz.underlying266]) .i64 (i:Int) (by omega) (by rw[arr65];omega),arr65]
 have e1:65-i=q:=by omega
 have e2:¬ 65=i:=by omega
 have hs:(sizeOf 5).run Tryz.prog W = .ok 1 W:=by kernel_rfl
 go_simp
theorem conv_at(h i q:Nat)(l:List UInt8)(hl:l.length=q)(W:World)(hc:∀ j (hj:j<l.length),W.cell? ⟨h,i+j,none⟩=some (.int .u8 (l[j].toNat:Int))):(convert 41 9 (.slice (some ⟨h,i,none⟩) q q)).run Tryz.prog W = .ok (.string (bs l)) W:=by
 subst hl
 exact run_convert_bytes_back (P:=Tryz.prog) W 41 9 5 ⟨h,i,none⟩ l.length l Tryz.underlying41 Tryz.underlying5 Tryz.underlying9 (fun j hj=>by rw[Lib.add_plain];exact hc j hj)
theorem FB_start(b u:Nat)(w:World)(hu:u<18446744073709551616)(arr:Array Value)(T:TypeId)(ha:arr.size=65):FB b u w.heap.size u 65 (w.alloc (.cells arr T)):=by
 refine⟨[],rfl,by simp,by simpa using hu,fun j hj=>by simp at hj,fun j hj=>⟨arr[j]'(by omega), ?_⟩,fun j => ?_,by simp⟩
 ·rw[World.cell?_alloc_new,Array.getElem?_eq_getElem (by omega)]
 ·unfold World.frozen?
  rw[show (w.alloc (.cells arr T)).heap[w.heap.size]? = _ from World.alloc_heap_new w _]
  simp
theorem and_mask{b s m v:Nat}(hb:b=16/\s=4)(hm:b=m+1)(hv:v<18446744073709551616):bits .and .u64 (v:Int) (m:Int)=((v%b:Nat):Int):=by
 rw[bits_and_u64_nat v m hv (by omega)]
 obtain⟨rfl,rfl⟩:=hb
 obtain rfl:m=2 ^ 4-1:=by omega
 rw[Nat.and_two_pow_sub_one_eq_mod]
theorem shr_base{b s v:Nat}(hb:b=16/\s=4):(v:Int)/2 ^ s=((v/b:Nat):Int):=by
 obtain⟨rfl,rfl⟩:=hb
 omega
theorem formatBits_any(b s u:Nat)(hb:b=16/\s=4)(hu:u<18446744073709551616)(w:World)(hBr:BruIs w) :
  Calls Tryz.prog 207 #[.slice none 0 0,.int .u64 (u:Int),.int .i64 (b:Int),.bool false,.bool false] w (fun e w'=>e = .returned (.tuple #[.slice none 0 0,.string (bs (digs b u))])/\Below w.heap.size w w'):=by
 have HP:=Lib.hid (fun W=>pow_at b s hb W)
 have HT:=Lib.hid (fun W h=>tz_at b s hb W h)
 have HBr:=Lib.hid hBr
 have HU:=Lib.hid hu
 have HS:=Lib.hid (fun arr T ha=>FB_start b u w hu arr T ha)
 obtain⟨m,hm⟩:∃ m:Nat,b=m+1:=⟨b-1,by omega⟩
 have hbm:(b:Int)-1=(m:Int):=by omega
 have hb8:(8:Int)<=(b:Int):=by omega
 have hb16:(b:Int)<=16:=by omega
 have hb10:((b:Int)==10)=false:=by
  rw[beq_eq_false_iff_ne]
  omega
 have hs4:(s:Int)<=4:=by omega
 have hs0:(0:Int)<=(s:Int):=by omega
 have hst:(s:Int).toNat=s:=by omega
 have HBS:=Lib.hid hb
 have HM:=Lib.hid hm
 clear hBr hu hb hm
 go_enter Tryz.func207,Tryz.ntmps207
 go_wp2_with fail
 refine (HP.out _).mono ?_
 rintro e w1 ⟨rfl,rfl⟩
 go_wp2_with fail
 refine (HT.out _ (HBr.out.go (Nat.le_refl _) ((Below.refl _ w).alloc (Nat.le_refl _) _))).mono ?_
 rintro e w2 ⟨rfl,rfl⟩
 go_wp2_with fail
 go_loopg [1,13] u (fun k s1 s13 wr => ∃ v i:Nat,s1 = .int .u64 (v:Int)/\v=k/\s13 = .int .i64 (i:Int)/\(1<=v∨i=65)/\i<=65/\Hid (v<18446744073709551616)/\Hid (FB b u w.heap.size v i wr)/\Below w.heap.size w wr)
 case atStart=>exact⟨u,65,rfl,rfl,rfl,.inr rfl,Nat.le_refl _,HU,Lib.hid (HS.out _ _ (by kernel_rfl)),(Below.refl _ w).alloc (Nat.le_refl _) _⟩
 case round =>
  obtain⟨v,i,rfl,rfl,rfl,hvi,hi65,HV,HF,hB⟩:=hrel
  have hb8':8<=b:=by omega
  have hi1:1<=i:=by
   rcases hvi with h|h
   ·exact FB_room hb8' h HF.out
   ·omega
  obtain⟨i',rfl⟩:∃ i',i=i'+1:=⟨i-1,by omega⟩
  have hii:((i'+1:Nat):Int)-1=(i':Int):=by omega
  have hi0:(0:Int)<=(i':Int)/\(i':Int)<65:=by omega
  have hil:i'<65:=by omega
  have hit:(i':Int).toNat=i':=by omega
  have hcf:(∃ c,wr.cell? ⟨w.heap.size,i',none⟩=some c)/\wr.frozen? ⟨w.heap.size,i',none⟩=false:=by
   obtain⟨suf,h1,h2,h3,h4,h5,h6,h7⟩:=HF.out
   exact⟨h5 i' hil,h6 i'⟩
  obtain⟨⟨c,hc⟩,hf⟩:=hcf
  by_cases hlt:b<=v
  ·have hge:(b:Int)<=(v:Int):=by omega
   obtain⟨d,hd⟩:∃ d,v%b=d:=⟨_,rfl⟩
   have hd16:d<16:=by
    have:=Nat.mod_lt v (show b > 0 by omega)
    omega
   have hand:bits .and .u64 (v:Int) (m:Int)=(d:Int):=by rw[and_mask HBS.out HM.out HV.out,hd]
   have hlit:(⟨#[48,49,50,51,52,53,54,55,56,57,97,98,99,100,101,102,103,104,105,106,107,108,109,110,111,112,113,114,115,116,117,118,119,120,121,122]⟩:ByteArray)[d]'(Nat.lt_trans hd16 (by decide))=dgB d:=lit_get ⟨d,hd16⟩
   have HDD:=Lib.hid hd
   have hF2:=Lib.hid (FB_put (by omega) HF.out hlt)
   rw[hd]at hF2
   have hv1:1<=v/b:=(Nat.one_le_div_iff (by omega)).2 hlt
   have hvd:v/b<v:=Nat.div_lt_self (by omega) (by omega)
   have HV2:=Lib.hid (Nat.lt_trans hvd HV.out)
   have HV1:=Lib.hid hv1
   have HVD:=Lib.hid hvd
   clear hd hvi hv1 hvd
   go_wp2_with fail
   go_roundg (v/b)
   case measure=>exact HVD.out
   case rel =>
    refine⟨v/b,i', ?_,rfl,by go_num,.inl HV1.out,by omega,HV2,hF2,hB.setCell (p:=⟨w.heap.size,i',none⟩) (Nat.le_refl _) _⟩
    rw[shr_base HBS.out]
  ·have hge:¬ (b:Int)<=(v:Int):=by omega
   have hd16:v<16:=by omega
   have hlit:(⟨#[48,49,50,51,52,53,54,55,56,57,97,98,99,100,101,102,103,104,105,106,107,108,109,110,111,112,113,114,115,116,117,118,119,120,121,122]⟩:ByteArray)[v]'(Nat.lt_trans hd16 (by decide))=dgB v:=lit_get ⟨v,hd16⟩
   obtain⟨q,hq⟩:∃ q,i'+q=65:=⟨65-i',by omega⟩
   obtain⟨hq1,hq2⟩:=FB_end HF.out (by omega) hq
   have hsl:=fun W=>slice_at w.heap.size i' q hq hil W
   have hcv:=conv_at w.heap.size i' q (digs b u) hq1 _ hq2
   clear hq1 hq2 hvi hq
   go_wp2_with fail
   go_ret2
   exact⟨rfl,hB.setCell (p:=⟨w.heap.size,i',none⟩) (Nat.le_refl _) _⟩
theorem formatUint_any(b s u:Nat)(hb:b=16/\s=4)(hu:u<18446744073709551616)(w:World)(hBr:BruIs w):Calls Tryz.prog 165 #[.int .u64 (u:Int),.int .i64 (b:Int)] w (Texts (digs b u) w):=by
 have H:=Lib.hid (formatBits_any b s u hb hu w hBr)
 have hb10:((b:Int)==10)=false:=by
  rw[beq_eq_false_iff_ne]
  omega
 clear hb hu hBr
 go_enter Tryz.func165,Tryz.ntmps165
 go_wp2_with fail
 refine H.out.mono ?_
 rintro e w1 ⟨rfl,hB⟩
 go_wp2_with fail
 go_ret
 exact⟨rfl,hB⟩
theorem FormatUint_any(b s u:Nat)(hb:b=16/\s=4)(hu:u<18446744073709551616)(w:World)(hBr:BruIs w):Calls Tryz.prog 115 #[.int .u64 (u:Int),.int .i64 (b:Int)] w (Texts (digs b u) w):=by
 have H:=Lib.hid (formatUint_any b s u hb hu w hBr)
 clear hb hu hBr
 go_enter Tryz.func115,Tryz.ntmps115
 go_wp2_with fail
 refine H.out.mono ?_
 rintro e w1 ⟨rfl,hB⟩
 go_wp2_with fail
 go_ret
 exact⟨rfl,hB⟩
theorem FormatHex_any(u:Nat)(hu:u<65536)(w:World)(hE:Env w):Calls Tryz.prog 115 #[.int .u64 (u:Int),.int .i64 16] w (Texts (digs 16 u) w):=FormatUint_any 16 4 u ⟨rfl,rfl⟩ (by omega) w hE.bru
def SRow (l:List Nat) (k h n:Nat) (w:World):Prop:=(∀ j,j<n->w.cell? ⟨h,j,none⟩=some (.string (if j<k then bs (digs 16 (nth l j)) else ⟨#[]⟩))/\w.frozen? ⟨h,j,none⟩=false)/\h<w.heap.size
theorem SRow.go{l:List Nat}{k h n:Nat}{w w':World}(hf:SRow l k h n w)(hb:Below w.heap.size w w'):SRow l k h n w' :=
 ⟨fun j hj=>⟨(hb.cell (p:=⟨h,j,none⟩) hf.2).trans (hf.1 j hj).1,(hb.frozen (p:=⟨h,j,none⟩) hf.2).trans (hf.1 j hj).2⟩,Nat.lt_of_lt_of_le hf.2 hb.size⟩
theorem SRow.step{l:List Nat}{k h n:Nat}{w:World}(hf:SRow l k h n w)(hk:k<n):SRow l (k+1) h n (w.setCell ⟨h,k,none⟩ (.string (bs (digs 16 (nth l k))))):=by
 refine⟨fun j hj=>⟨?_,by rw[World.frozen?_setCell];exact (hf.1 j hj).2⟩,by simpa[World.setCell] using hf.2⟩
 by_cases hjk:j=k
 ·subst hjk
  rw[if_pos (Nat.lt_succ_self _)]
  exact World.cell?_setCell_same _ _ _ (hf.1 j hj).1
 ·rw[World.cell?_setCell_other _ _ _ _ (by intro e;injection e;omega),(hf.1 j hj).1]
  by_cases hlt:j<k
  ·rw[if_pos hlt,if_pos (by omega)]
  ·rw[if_neg hlt,if_neg (by omega)]
theorem SRow.new(l:List Nat)(n:Nat)(w:World):SRow l 0 w.heap.size n (w.alloc (.cells (madeCells #[.string ByteArray.empty] n) 9)):=by
 refine⟨fun j hj=>⟨?_, ?_⟩,by simp⟩
 ·rw[World.cell?_alloc_new,<-Array.getElem?_toList,toList_madeCells_one,List.getElem?_replicate,if_pos hj,if_neg (Nat.not_lt_zero _)]
  rfl
 ·unfold World.frozen?
  rw[show (w.alloc (.cells (madeCells #[.string ByteArray.empty] n) 9)).heap[w.heap.size]? = _ from World.alloc_heap_new w _]
  simp
theorem info_u:(Tryz.prog.info? 24).map (fun i=>(i.zero,i.size,i.bytes))=some (some (.int .u16 0),1,2):=by kernel_rfl
theorem nth_le{l:List Nat}(h:∀ m∈l,m<65536){k:Nat}(hk:k<l.length):nth l k<65536:=h _ (nth_mem hk)
theorem hx_get{l:List Nat}{j:Nat}{x:List UInt8}(h:(hx l)[j]? = some x):j<l.length/\x=digs 16 (nth l j):=by
 rw[hx,List.getElem?_map]at h
 obtain⟨a,ha,rfl⟩:=Option.map_eq_some_iff.1 h
 obtain⟨hj,e⟩:=List.getElem?_eq_some_iff.1 ha
 refine⟨hj, ?_⟩
 rw[nth,List.getD,ha]
 rfl
theorem map_bs(ps:List (List UInt8)):(ps.map bs).map dl=ps:=by
 rw[List.map_map]
 conv=>rhs;rw[<-List.map_id ps]
 exact List.map_congr_left fun q _=>bs_data q
theorem join_any(l:List Nat)(A:Option Addr)(n c:Nat)(w:World)(hl:l.length=n)(hn:n<=8)(h16:∀ m∈l,m<65536)(hr:Row w w.heap.size A (cu l))(hE:Env w) :
  Calls Tryz.prog 59 #[.slice A n c] w (Texts (jn (hx l)) w):=by
 have hmk:=run_make_row' (P:=Tryz.prog) 83 9 (.string ByteArray.empty) 16 Tryz.underlying83 info_s rfl .i64 .i64 n (by omega) (by omega) w
 have HN0:=Lib.hid (SRow.new l n w)
 have hB0:Below w.heap.size w (w.alloc (.cells (madeCells #[.string ByteArray.empty] n) 9)):=upA w _
 have HL:=Lib.hid hl
 have H16:=Lib.hid h16
 have HE:=Lib.hid (fun w' (hB:Below w.heap.size w w')=>hE.go hB)
 have HR:=Lib.hid hr
 generalize w.alloc (.cells (madeCells #[.string ByteArray.empty] n) 9)=W1 at hmk HN0 hB0
 have HB0:=Lib.hid hB0
 clear hl h16 hE hr hB0
 go_enter Tryz.func59,Tryz.ntmps59
 go_wp2
 clear hmk
 go_loopg [11] n (fun m s11 wr => ∃ k:Nat,s11 = .int .i64 (k:Int)/\n-k=m/\k<=n/\Hid (SRow l k w.heap.size n wr)/\Hid (Below w.heap.size w wr))
 case atStart=>exact⟨0,rfl,rfl,Nat.zero_le _,HN0,HB0⟩
 case round =>
  obtain⟨k,rfl,rfl,hk,HS,HB⟩:=hrel
  by_cases hlt:k<n
  ·have hltz:(k:Int)<(n:Int):=by omega
   obtain⟨b,o,rfl,hb,hcc⟩:=(HR.out.below HB.out).at_ (by rw[cu_len,HL.out];omega)
   have hc:wr.cell? ⟨b,o+k,none⟩=some (.int .u16 (nth l k:Int)):=by
    rw[hcc k (by rw[cu_len,HL.out];exact hlt),cu_get (by rw[HL.out];exact hlt)]
   have hv:=nth_le H16.out (k:=k) (by rw[HL.out];exact hlt)
   have HSt:=Lib.hid (fun w' (h:SRow l k w.heap.size n w')=>h.step hlt)
   have hcf:∀ w',Below wr.heap.size wr w'->w'.cell? ⟨w.heap.size,k,none⟩=some (.string ⟨#[]⟩)/\w'.frozen? ⟨w.heap.size,k,none⟩=false:=fun w' h=>by
    have:=(HS.out.go h).1 k hlt
    rw[if_neg (Nat.lt_irrefl _)]at this
    exact this
   have HCF:=Lib.hid hcf
   generalize nth l k=v at hc hv HSt
   have HF:=Lib.hid (FormatHex_any v hv wr (HE.out _ HB.out))
   have hv0:(v:Int)<65536:=by omega
   clear hcc hcf hv
   go_wp2_with fail
   refine HF.out.mono ?_
   rintro e w2 ⟨rfl,hB2⟩
   obtain⟨c2,f2⟩:=HCF.out w2 hB2
   have HS2:=Lib.hid (HSt.out _ (HS.out.go hB2))
   have HB2:=Lib.hid (upB HB.out hB2)
   clear hB2
   go_wp2_with fail
   go_roundg (n-(k+1))
   case measure=>omega
   case rel=>exact⟨k+1,by go_num,rfl,by omega,HS2,Lib.hid (HB2.out.setCell (p:=⟨w.heap.size,k,none⟩) (Nat.le_refl _) _)⟩
  ·obtain rfl:k=n:=by omega
   have hltz:¬ (k:Int)<(k:Int):=by omega
   have hxl:((hx l).map bs).length=k:=by rw[List.length_map,hx,List.length_map,HL.out]
   have HJ:=Lib.hid (Join_any w.heap.size k ((hx l).map bs) wr (fun j x hx'=>by
    rw[List.getElem?_map]at hx'
    obtain⟨y,hy,rfl⟩:=Option.map_eq_some_iff.1 hx'
    obtain⟨hj,rfl⟩:=hx_get hy
    have:=(HS.out.1 j (by rw[<-HL.out];exact hj)).1
    rw[if_pos (by rw[<-HL.out];exact hj)]at this
    exact this) HS.out.2 (by omega) (by omega) (by
     rw[map_bs]
     have:=jn_len (hx l) (hx_len H16.out)
     have h2:(hx l).length=k:=by rw[hx,List.length_map,HL.out]
     omega))
   rw[hxl,map_bs]at HJ
   clear hxl hlt
   go_wp2_with fail
   refine HJ.out.mono ?_
   rintro e w2 ⟨rfl,hB2⟩
   go_wp2_with fail
   go_ret
   exact⟨rfl,upB HB.out hB2⟩
def kept (x:List Nat) (k n:Nat):List Nat:=List.replicate k 0++((x.drop k).take n++List.replicate (8-k-n) 0)
theorem kept_len{x:List Nat}{k n:Nat}(h8:x.length=8)(hk:k+n<=8):(kept x k n).length=8:=by
 simp[kept,h8]
 omega
theorem kept_zero{x:List Nat}{k n:Nat}(h8:x.length=8)(hk:k+n<=8):kept x k n=z8↔zr x k n:=by
 have hz:z8=List.replicate 8 0:=rfl
 have e:kept x k n=z8↔∀ v∈(x.drop k).take n,v=0:=by
  have hl:=kept_len h8 hk
  rw[hz,List.eq_replicate_iff]
  unfold kept at hl ⊢
  constructor
  ·rintro ⟨_,h⟩ v hv
   exact h v (List.mem_append.2 (.inr (List.mem_append.2 (.inl hv))))
  ·intro h
   refine⟨hl,fun v hv => ?_⟩
   rcases List.mem_append.1 hv with hv|hv
   ·exact (List.mem_replicate.1 hv).2
   ·rcases List.mem_append.1 hv with hv|hv
    ·exact h v hv
    ·exact (List.mem_replicate.1 hv).2
 rw[e,zr_nth]
 constructor
 ·intro h i hi hin
  have:nth x i∈(x.drop k).take n:=by
   have h1:nth ((x.drop k).take n) (i-k)=nth x i:=by rw[nth_take (by omega),nth_drop,show k+(i-k)=i by omega]
   rw[<-h1]
   exact nth_mem (by simp;omega)
  exact h _ this
 ·intro h v hv
  obtain⟨j,hj,rfl⟩:=List.getElem_of_mem hv
  simp at hj
  have:=h (k+j) (by omega) (by omega)
  rw[nth,List.getD,List.getElem?_eq_getElem (by omega)]at this
  simpa using this
theorem kept_splice{x:List Nat}{k n:Nat}(h8:x.length=8)(hk:k+n<=8):splice (cu z8) k (cu ((x.drop k).take n))=cu (kept x k n):=by
 have hl:(cu ((x.drop k).take n)).length=n:=by rw[cu_len,List.length_take,List.length_drop,h8];omega
 have hz:cu z8=List.replicate 8 (.int .u16 0):=rfl
 have hr:∀ m,cu (List.replicate m 0)=List.replicate m (.int .u16 0):=fun m=>by simp[cu]
 unfold splice kept
 rw[hl,cu_app,cu_app,hr,hr,hz,List.take_replicate,List.drop_replicate,show min k 8=k by omega,show 8-(k+n)=8-k-n by omega]
theorem arr8:Tryz.prog.arrayLen 25=8:=by kernel_rfl
theorem elem8:Tryz.prog.elem 25=24:=by kernel_rfl
theorem under8:Tryz.prog.underlying 25=some (.array (Tryz.prog.arrayLen 25) (Tryz.prog.elem 25)):=by rw[arr8,elem8];exact Tryz.underlying25
def off (k:Nat):Nat:=if k=8 then 0 else k
theorem off_lt{k:Nat}(h:k<8):off k=k:=if_neg (by omega)
theorem size16(W:World):(sizeOf 24).run Tryz.prog W = .ok 1 W:=by kernel_rfl
theorem sl_l(B k:Nat)(hk:k<=8)(W:World):(Instr.sliceAt 25 (.pointer (some ⟨B,0,none⟩)) (some (.int .i64 (k:Int))) none none).run Tryz.prog W = .ok (.slice (some ⟨B,off k,none⟩) (8-k) (8-k)) W:=by
 rw[run_sliceAt_array_l W 25 ⟨B,0,none⟩ under8 .i64 (k:Int) (by omega) (by rw[arr8];omega),arr8,elem8,size16]
 unfold off slicedAt
 by_cases h:k=8
 ·subst h;simp[Result.andThen]
 ·have h2:¬ 8=k:=fun e=>h e.symm
  simp[Result.andThen,h,h2,Addr.add]
  exact fun e=>e.symm
theorem sl_h(B k:Nat)(hk:k<=8)(W:World):(Instr.sliceAt 25 (.pointer (some ⟨B,0,none⟩)) none (some (.int .i64 (k:Int))) none).run Tryz.prog W = .ok (.slice (some ⟨B,0,none⟩) k 8) W:=by
 rw[run_sliceAt_array_h W 25 ⟨B,0,none⟩ under8 .i64 (k:Int) (by omega) (by rw[arr8];omega),arr8,elem8,size16]
 unfold slicedAt
 simp[Result.andThen,Addr.add]
theorem sl_all(B:Nat)(W:World):(Instr.sliceAt 25 (.pointer (some ⟨B,0,none⟩)) none none none).run Tryz.prog W = .ok (.slice (some ⟨B,0,none⟩) 8 8) W:=by
 rw[run_sliceAt_array_all W 25 ⟨B,0,none⟩ under8,arr8,elem8,size16]
 unfold slicedAt
 simp[Result.andThen,Addr.add]
theorem sl_lh(B k n:Nat)(hk:k+n<=8)(hk8:k<8)(W:World):(Instr.sliceAt 25 (.pointer (some ⟨B,0,none⟩)) (some (.int .i64 (k:Int))) (some (.int .i64 ((k:Int)+(n:Int)))) none).run Tryz.prog W = .ok (.slice (some ⟨B,k,none⟩) n (8-k)) W:=by
 rw[run_sliceAt_array_lh W 25 ⟨B,0,none⟩ under8 .i64 .i64 (k:Int) ((k:Int)+(n:Int)) (by omega) (by omega) (by rw[arr8];omega),arr8,elem8,size16]
 have e:((k:Int)+(n:Int)).toNat=k+n:=by omega
 rw[e]
 unfold slicedAt
 have h2:¬ 8=k:=by omega
 simp[Result.andThen,h2,Addr.add]
 exact fun e=>e.symm
theorem info16:(Tryz.prog.info? 24).map (·.size)=some 1:=by kernel_rfl
theorem only_any(x:List Nat)(h8:x.length=8)(k n:Nat)(hk:k+n<=8)(hk8:k<8)(w:World):Calls Tryz.prog 114 #[av x,.int .i64 (k:Int),.int .i64 (n:Int)] w (Tells (av (kept x k n)) w):=by
 have H8:=Lib.hid h8
 have hi1:(k:Int)<=8:=by omega
 have hi2:(k:Int)+(n:Int)<=8:=by omega
 have h0:=(Hx.new w x).go (((upA _ (.cells (cu z8).toArray 25))).alloc (by simp) (.cells (cu z8).toArray 25))
 have h1:=(Hx.new (w.alloc (.cells (cu x).toArray 25)) z8).go (upA _ (.cells (cu z8).toArray 25))
 have h2:=Hx.new ((w.alloc (.cells (cu x).toArray 25)).alloc (.cells (cu z8).toArray 25)) z8
 rw[World.size_alloc]at h1 h2
 rw[World.size_alloc]at h2
 have hB0:Below w.heap.size w (((w.alloc (.cells (cu x).toArray 25)).alloc (.cells (cu z8).toArray 25)).alloc (.cells (cu z8).toArray 25)):=((upA w _).alloc (by simp) _).alloc (by simp;omega) _
 have ez:(cu z8).toArray=#[.int .u16 0,.int .u16 0,.int .u16 0,.int .u16 0,.int .u16 0,.int .u16 0,.int .u16 0,.int .u16 0]:=rfl
 rw[ez]at h0 h1 h2 hB0
 clear ez
 have HSL1:=Lib.hid (fun W=>sl_l (w.heap.size+1+1) k (by omega) W)
 have HSL2:=Lib.hid (fun W=>sl_lh w.heap.size k n hk hk8 W)
 rw[off_lt hk8]at HSL1
 have HK:=Lib.hid hk
 obtain⟨X,hX⟩:∃ X,cu ((x.drop k).take n)=X:=⟨_,rfl⟩
 have hXl:X.length=n:=by rw[<-hX,cu_len,List.length_take,List.length_drop,h8];omega
 have HXS:Hid (splice (cu z8) k X=cu (kept x k n)):=Lib.hid (by rw[<-hX];exact kept_splice h8 hk)
 have HX1:Hid (∀ v∈X,v.oneCell'=true):=Lib.hid (by rw[<-hX];exact one_cu _)
 have HXC:Hid (∀ W,Hx W w.heap.size x->∀ (j:Nat) v,X[j]? = some v->W.cell? ((⟨w.heap.size,k,none⟩:Addr).add j)=some v):=Lib.hid (by
  intro W hW j v hv
  have hj:=(List.getElem?_eq_some_iff.1 hv).1
  rw[hXl]at hj
  rw[<-hX,cu_get (by rw[List.length_take,List.length_drop,h8];omega)]at hv
  rw[Lib.add_plain,hW.cell (by omega),<-Option.some.inj hv,nth_take (by omega),nth_drop])
 have HXL:=Lib.hid hXl
 have hkl:=kept_len h8 hk
 obtain⟨K,hK⟩:∃ K,kept x k n=K:=⟨_,rfl⟩
 rw[hK]at HXS hkl ⊢
 have HKL:=Lib.hid hkl
 clear hX hXl hkl hK
 go_enter Tryz.func114,Tryz.ntmps114
 go_upto_region 2 with fail
 generalize ((w.alloc (.cells (cu x).toArray 25)).alloc (.cells #[.int .u16 0,.int .u16 0,.int .u16 0,.int .u16 0,.int .u16 0,.int .u16 0,.int .u16 0,.int .u16 0] 25)).alloc (.cells #[.int .u16 0,.int .u16 0,.int .u16 0,.int .u16 0,.int .u16 0,.int .u16 0,.int .u16 0,.int .u16 0] 25)=W1 at h0 h1 h2 hB0 ⊢
 have hw:IntKind.i64.wrap ((k:Int)+(n:Int))=(k:Int)+(n:Int):=IntWalk.i64_in _ (by omega)
 have hs1:=HSL1.out
 have hs2:=HSL2.out
 have HG:Hid (W1.drew.heap[w.heap.size+1+1]? = some (.cells (cu z8).toArray 25 (0,0))):=Lib.hid h2
 have HCC:Hid (∀ (j:Nat) v,X[j]? = some v->W1.drew.cell? ((⟨w.heap.size,k,none⟩:Addr).add j)=some v):=Lib.hid (HXC.out W1.drew h0)
 have HM:Hid (X.length=Nat.min n (8-k)):=Lib.hid (by have:=HXL.out;have:=HK.out;simp only[Nat.min_def];split<;>omega)
 have HF:Hid (k+X.length<=(cu z8).length):=Lib.hid (by have:=HXL.out;have:=HK.out;rw[cu_len];show k+X.length<=8;omega)
 have HBr:Hid (Below (w.heap.size+1+1) W1 W1.drew):=Lib.hid ((Below.refl _ W1).drew)
 go_region_law (refine step_copy_splice rfl (.tmp 9) (.tmp 14) 89 89 rfl 24 Tryz.underlying89 info16 (some ⟨w.heap.size+1+1,k,none⟩) (some ⟨w.heap.size,k,none⟩) (8-k) (8-k) n (8-k) (by simp[Act.eval,Act.put]) (by simp[Act.eval,Act.put]) (w.heap.size+1+1) k (cu z8) 25 HG.out X HM.out (fun _=>⟨rfl,_,rfl,HCC.out⟩) HF.out HX1.out (w.heap.size+1+1) W1 HBr.out (Nat.le_refl _) ?_;intro w4 hg4 hb4)
 have hx7:Hx w4 (w.heap.size+1+1) K:=by
  have:=hg4.out
  rw[HXS.out]at this
  exact this
 have hx6:Hx w4 (w.heap.size+1) z8:=h1.gob (Nat.lt_succ_self _) hb4
 have hB4:Below w.heap.size w w4:=hB0.trans (hb4.mono (by omega))
 have hu:=Tryz.underlying25
 have hT:=hx6.there (y:=K) (by rw[HKL.out];rfl)
 have hI:=info_ofA HKL.out
 have hO:=oneA K
 have hR:=hx7.range
 have hI2:=info_of HKL.out
 have HV:=Lib.hid (load_set hx6 rfl HKL.out)
 clear HCC HG HBr HM HF h0 h1 h2 hb4 hg4 hs1 hs2 HSL1 HSL2 HXC HX1
 go_wp2_with(first|(refine wpList_load_mid rfl 25 _ rfl _ 0 rfl (cu K) _ hR hu rfl hI2 ?_)|(refine wpList_store_mid rfl 25 _ _ rfl _ 0 (cu K).toArray rfl rfl hT hI hO ?_)|fail)
 refine bodyPost_ret (v:=av K) ?_ rfl ⟨rfl,below_setCells (Nat.le_succ _) _ _ _ hB4⟩
 exact results_cell Tryz.results114 rfl HV.out
def NL (x:List Nat) (L:Nat):Prop:=∀ k' n',2<=n'->k'+n'<=8->L<n'->¬ zr x k' n'
def NA (x:List Nat) (L a:Nat):Prop:=∀ k',k'<a->¬ zr x k' L
theorem run_found{x:List Nat}{L a:Nat}(h1:2<=L)(h2:a+L<=8)(hL:NL x L)(hA:NA x L a)(hz:zr x a L):IsRun x a L :=
 .inr ⟨h1,h2,hz,fun k' n' g1 g2 g3=>by
  rcases g3 with g3|⟨rfl,g3⟩
  ·exact hL k' n' g1 g2 g3
  ·exact hA k' g3⟩
theorem run_none{x:List Nat}(hL:NL x 1):IsRun x 0 0:=.inl ⟨rfl,rfl,fun k' n' g1 g2=>hL k' n' g1 g2 (by omega)⟩
theorem NL_next{x:List Nat}{L a:Nat}(hL:NL x L)(hA:NA x L a)(ha:a+L=9):NL x (L-1):=fun k' n' g1 g2 g3=>by
 by_cases e:n'=L
 ·subst e
  exact hA k' (by omega)
 ·exact hL k' n' g1 g2 (by omega)
theorem Run_any(x:List Nat)(h8:x.length=8)(k n:Nat)(hr:IsRun x k n)(w:World):Calls Tryz.prog 58 #[av x] w (Tells (.tuple #[.int .i64 (k:Int),.int .i64 (n:Int)]) w):=by
 have H8:=Lib.hid h8
 have HR:=Lib.hid hr
 have h0:=Lib.hid (Hx.new w x)
 have hB0:=Lib.hid (upA w (.cells (cu x).toArray 25))
 clear h8 hr
 go_enter Tryz.func58,Tryz.ntmps58
 go_upto_region 1 with fail
 generalize w.alloc (.cells (cu x).toArray 25)=w1 at h0 hB0 ⊢
 go_wp2_with fail
 go_loopg [4] 8 (fun m s4 wr => ∃ L:Nat,s4 = .int .i64 (L:Int)/\L=m/\1<=L/\L<=8/\Hid (NL x L)/\Hid (Hx wr w.heap.size x)/\Hid (Below w.heap.size w wr))
 case atStart=>exact⟨8,rfl,rfl,by decide,Nat.le_refl _,Lib.hid (fun k' n' g1 g2 g3=>by omega),h0,hB0⟩
 case round =>
  clear h0 hB0
  obtain⟨L,rfl,rfl,hL1,hL8,HNL,HX,HB⟩:=hrel
  by_cases hlt:1<L
  ·obtain⟨b,hb⟩:∃ b:Nat,8-(L:Int)+1=(b:Int):=⟨9-L,by omega⟩
   have hbL:b+L=9:=by omega
   have hb8:b<=7:=by omega
   have hdl:decide ((1:Int)<(L:Int))=true:=decide_eq_true (by omega)
   go_wp2_with fail
   go_loopg [13] b (fun m s13 wx => ∃ a:Nat,s13 = .int .i64 (a:Int)/\b-a=m/\a<=b/\Hid (NA x L a)/\Hid (Hx wx w.heap.size x)/\Hid (Below w.heap.size w wx))
   case atStart=>exact⟨0,rfl,rfl,Nat.zero_le _,Lib.hid (fun k' h=>by omega),HX,HB⟩
   case round =>
    clear HX HB
    obtain⟨a,rfl,rfl,hab,HNA,HX,HB⟩:=hrel
    by_cases hat:a<b
    ·have hatz:(a:Int)<(b:Int):=by omega
     have hal:a+L<=8:=by omega
     have ha8:a<8:=by omega
     have HO:=Lib.hid (fun W=>only_any x H8.out a L hal ha8 W)
     have HE:∀ W,(Op.equalIn 10000 25 (.agg (cu (kept x a L)).toArray) (.agg #[.int .u16 0,.int .u16 0,.int .u16 0,.int .u16 0,.int .u16 0,.int .u16 0,.int .u16 0,.int .u16 0])).run Tryz.prog W = .ok (decide (kept x a L=z8)) W:=fun W=>equal8 (kept x a L) z8 (kept_len H8.out hal) rfl W
     have hkz:=kept_zero (n:=L) H8.out hal
     have HKZ:=Lib.hid hkz
     have hx:=HX.out
     by_cases hz:kept x a L=z8
     ·rw[decide_eq_true hz]at HE
      have HZ:=Lib.hid (hkz.1 hz)
      have hx2:=HX
      obtain⟨K,hK⟩:∃ K,kept x a L=K:=⟨_,rfl⟩
      rw[hK]at HO HE
      clear hz hkz HKZ hK
      go_wp2_with(first|(refine load8 _ rfl _ rfl x hx H8.out rfl ?_)|(go_at_call 114;refine (HO.out _).mono ?_;rintro e w2 ⟨rfl,hB2⟩)|fail)
      go_ret2
      obtain⟨rfl,rfl⟩:=(run_found hlt hal HNL.out HNA.out HZ.out).same HR.out
      exact⟨rfl,upB HB.out hB2⟩
     ·rw[decide_eq_false hz]at HE
      have HZ:=Lib.hid (fun e=>hz (hkz.2 e))
      obtain⟨K,hK⟩:∃ K,kept x a L=K:=⟨_,rfl⟩
      rw[hK]at HO HE
      clear hz hkz HKZ hK
      go_wp2_with(first|(refine load8 _ rfl _ rfl x hx H8.out rfl ?_)|(go_at_call 114;refine (HO.out _).mono ?_;rintro e w2 ⟨rfl,hB2⟩)|fail)
      go_roundg (b-(a+1))
      case measure=>omega
      case rel=>exact⟨a+1,by go_num,rfl,by omega,Lib.hid (fun k' h=>by
       by_cases e:k'=a
       ·subst e;exact HZ.out
       ·exact HNA.out k' (by omega)),Lib.hid (HX.out.go hB2),Lib.hid (upB HB.out hB2)⟩
    ·obtain rfl:a=b:=by omega
     have hatz:¬ (a:Int)<(a:Int):=by omega
     go_wp2_with fail
     go_roundg (L-1)
     case measure=>omega
     case rel=>exact⟨L-1,by go_num,rfl,by omega,by omega,Lib.hid (NL_next HNL.out HNA.out hbL),HX,HB⟩
  ·obtain rfl:L=1:=by omega
   go_wp2_with fail
   go_ret2
   obtain⟨rfl,rfl⟩:=(run_none HNL.out).same HR.out
   exact⟨rfl,HB.out⟩
theorem sl_sum(B k n:Nat)(hk:k+n<=8)(W:World):(Instr.sliceAt 25 (.pointer (some ⟨B,0,none⟩)) (some (.int .i64 ((k:Int)+(n:Int)))) none none).run Tryz.prog W = .ok (.slice (some ⟨B,off (k+n),none⟩) (8-(k+n)) (8-(k+n))) W:=by
 have:=sl_l B (k+n) hk W
 rw[show ((k+n:Nat):Int)=(k:Int)+(n:Int) by simp]at this
 exact this
theorem Hx.dropo{w:World}{B:Nat}{x:List Nat}(h:Hx w B x)(h8:x.length=8)(k:Nat)(hk:k<=8):Row w w.heap.size (some ⟨B,off k,none⟩) (cu (x.drop k)):=by
 by_cases e:k=8
 ·subst e
  rw[List.drop_of_length_le (by omega)]
  exact .empty
 ·rw[off_lt (by omega)]
  exact h.drop k
theorem mem_take{x:List Nat}(h:∀ m∈x,m<65536)(k:Nat):∀ m∈x.take k,m<65536:=fun m hm=>h m (List.mem_of_mem_take hm)
theorem mem_drop{x:List Nat}(h:∀ m∈x,m<65536)(k:Nat):∀ m∈x.drop k,m<65536:=fun m hm=>h m (List.mem_of_mem_drop hm)
theorem hx_jn_len{x:List Nat}(h:∀ m∈x,m<65536)(h8:x.length<=8):(jn (hx x)).length<=40:=by
 have:=jn_len (hx x) (hx_len h)
 rw[hx,List.length_map]at this
 unfold hx
 omega
theorem jn_size{x:List Nat}(h:∀ m∈x,m<65536)(h8:x.length<=8):(bs (jn (hx x))).size<=40:=by rw[bs_size];exact hx_jn_len h h8
theorem Show_any(x:List Nat)(h8:x.length=8)(h16:∀ m∈x,m<65536)(k n:Nat)(hr:IsRun x k n)(w:World)(hE:Env w):Calls Tryz.prog 23 #[av x] w (Texts (shw x k n) w):=by
 have H8:=Lib.hid h8
 have HR:=Lib.hid (fun W=>Run_any x h8 k n hr W)
 have hx0:=Hx.new w x
 have hB0:=upA w (.cells (cu x).toArray 25)
 have hE1:=hE.go hB0
 have hkn:k+n<=8:=by rcases hr with ⟨h1,h2,_⟩|⟨_,h2,_⟩<;>omega
 obtain⟨w1,hw1⟩:∃ w1,w.alloc (.cells (cu x).toArray 25)=w1:=⟨_,rfl⟩
 rw[hw1]at hx0 hB0 hE1
 have HX:=Lib.hid hx0
 have HB0:=Lib.hid hB0
 by_cases hn:n=0
 ·have HJ:=Lib.hid (fun W (hB:Below w1.heap.size w1 W)=>join_any x (some ⟨w.heap.size,0,none⟩) 8 8 W h8 (Nat.le_refl _) h16 (by have:=(hx0.go hB).drop 0;rwa [List.drop_zero]at this) (hE1.go hB))
  have hs:shw x k n=jn (hx x):=if_pos hn
  rw[hs]
  have hsl:=fun W=>sl_all w.heap.size W
  have hnz:((n:Int)==0)=true:=by rw[hn];rfl
  clear hr hkn h8 h16 hE hB0 hE1 hs hn
  go_enter Tryz.func23,Tryz.ntmps23
  go_upto_region 1 with fail
  clear hw1
  go_wp2_with(first|(refine load8 _ rfl _ rfl x hx0 H8.out rfl ?_)|(go_at_call 58;refine (HR.out _).mono ?_;rintro e w2 ⟨rfl,hB2⟩)|(go_at_call 59;refine (HJ.out _ hB2).mono ?_;rintro e w3 ⟨rfl,hB3⟩)|fail)
  go_ret
  exact⟨rfl,upB HB0.out (upB hB2 hB3)⟩
 ·have hs:shw x k n=jn (hx (x.take k))++58::58::jn (hx (x.drop (k+n))):=if_neg hn
  rw[hs]
  have HJ1:=Lib.hid (fun W (hB:Below w1.heap.size w1 W)=>(join_any (x.take k) (some ⟨w.heap.size,0,none⟩) k 8 W (by rw[List.length_take,h8];omega) (by omega) (mem_take h16 k) ((hx0.go hB).take k) (hE1.go hB)).mono fun e w' h=>(⟨h.1,upB hB h.2⟩:Texts (jn (hx (x.take k))) w1 e w'))
  have HJ2:=Lib.hid (fun W (hB:Below w1.heap.size w1 W)=>(join_any (x.drop (k+n)) (some ⟨w.heap.size,off (k+n),none⟩) (8-(k+n)) (8-(k+n)) W (by rw[List.length_drop,h8]) (by omega) (mem_drop h16 (k+n)) ((hx0.go hB).dropo h8 (k+n) hkn) (hE1.go hB)).mono fun e w' h=>(⟨h.1,upB hB h.2⟩:Texts (jn (hx (x.drop (k+n)))) w1 e w'))
  have hz1:=jn_size (mem_take h16 k) (by rw[List.length_take];omega)
  have hz2:=jn_size (mem_drop h16 (k+n)) (by rw[List.length_drop];omega)
  have HA:Hid (∀ a b:List UInt8,bs a++⟨#[58,58]⟩++bs b=bs (a++58::58::b)):=Lib.hid (fun a b=>bytes_ext.2 (by
   rw[bs_data]
   show dl _=_
   rw[app_dl,app_dl]
   simp[dl,bs]))
  generalize jn (hx (x.take k))=T1 at HJ1 hz1 ⊢
  generalize jn (hx (x.drop (k+n)))=T2 at HJ2 hz2 ⊢
  have hsl1:=fun W=>sl_h w.heap.size k (by omega) W
  have hsl2:=fun W=>sl_sum w.heap.size k n hkn W
  generalize off (k+n)=o at HJ2 hsl2
  generalize 8-(k+n)=m at HJ2 hsl2
  have hw:IntKind.i64.wrap ((k:Int)+(n:Int))=(k:Int)+(n:Int):=IntWalk.i64_in _ (by omega)
  have hnz:((n:Int)==0)=false:=by rw[beq_eq_false_iff_ne];omega
  clear hr h8 h16 hE hB0 hE1 hs hn
  go_enter Tryz.func23,Tryz.ntmps23
  go_upto_region 1 with fail
  clear hw1
  go_upto_region 4 with(first|(refine load8 _ rfl _ rfl x hx0 H8.out rfl ?_)|(go_at_call 58;refine (HR.out _).mono ?_;rintro e w2 ⟨rfl,hB2⟩)|fail)
  have hd0:=hB2.drew
  have hc1:¬ (9223372036854775807<(bs T1).size+2):=by omega
  have hc2:¬ (9223372036854775807<(bs T1).size+2+(bs T2).size):=by omega
  go_region_law (first
   | (go_simp;go_at_call 59;with_reducible refine (HJ1.out _ (by assumption)).mono ?_;rintro e' wA ⟨rfl,hbA⟩)
   | (go_simp;go_at_call 59;with_reducible refine (HJ2.out _ (by assumption)).mono ?_;rintro e' wB ⟨rfl,hbB⟩)
   | fail)
  all_goals
   go_wp2_with fail
   go_ret
   rw[Texts,<-HA.out]
   first|exact⟨rfl,upB HB0.out hbB⟩|exact⟨rfl,upB HB0.out hbA⟩
end Go.Proofs.YtediahdedmkehaaGreatDoor.Sx
