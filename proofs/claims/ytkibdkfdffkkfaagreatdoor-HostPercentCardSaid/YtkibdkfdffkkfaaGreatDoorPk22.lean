import Derived.Test.YtkibdkfdffkkfaaGreatDoorPk17
import Derived.Deep.LoopGhost
import Derived.Laws.EntriesVeiled
set_option maxRecDepth 100000
set_option maxHeartbeats 8000000
namespace Go.Proofs.YtkibdkfdffkkfaaGreatDoor.Ctx
open Go.RowKit Ucd
def Tells (v:Value) (w:World) (e:Ending) (w':World):Prop:=e = .returned v/\Below w.heap.size w w'
def IsB (b:Bool) (w:World) (e:Ending) (w':World):Prop:=e = .returned (.bool b)/\Below w.heap.size w w'
theorem upB{w w1 w2:World}(h:Below w.heap.size w w1)(k:Below w1.heap.size w1 w2):Below w.heap.size w w2:=h.trans (k.mono h.size)
theorem upA(w:World)(o:Obj):Below w.heap.size w (w.alloc o):=(Below.refl _ w).alloc (Nat.le_refl _) o
theorem upR{w w':World}{A:Option Addr}{xs:List Value}(h:Row w w.heap.size A xs)(hb:Below w.heap.size w w'):Row w' w'.heap.size A xs:=(h.below hb).mono hb.size
theorem gets{l:List Int}{i:Nat}(h:i<l.length):l[i]? = some l[i]!:=by rw[List.getElem?_eq_getElem h,getElem!_pos l i h]
theorem mems{l:List Int}{i:Nat}(h:i<l.length):l[i]!∈l:=by rw[getElem!_pos l i h];exact List.getElem_mem h
theorem row_cell{w:World}{b o:Nat}{l:List Int}(hc:∀ k,k<(cl .i32 l).length->w.cell? ⟨b,o+k,none⟩=(cl .i32 l)[k]?)(k:Nat)(hk:k<l.length):w.cell? ⟨b,o+k,none⟩=some (.int .i32 l[k]!):=by
 rw[hc k (by simpa using hk),List.getElem?_map,gets hk]
 rfl
def C32 (l:List Int):Prop:=∀ x∈l,-2147483648<=x/\x<=2147483647
def jt (r:Int):Int:=g (of r) 2
def cc (r:Int):Int:=g (of r) 3
def sc (r:Int):Int:=g (of r) 4
def nxt:List Int->Int
 | []=>0
 | r::t=>if jt r=2 then nxt t else jt r
theorem nxt_drop{l:List Int}{k:Nat}(h:k<l.length):nxt (l.drop k)=if jt l[k]! = 2 then nxt (l.drop (k+1)) else jt l[k]!:=by
 rw[List.drop_eq_getElem_cons h,nxt,getElem!_pos l k h]
theorem nxt_end{l:List Int}{k:Nat}(h:l.length<=k):nxt (l.drop k)=0:=by rw[List.drop_eq_nil_of_le h];rfl
theorem nxt_take{l:List Int}{k:Nat}(h:k<l.length):nxt (l.take (k+1)).reverse=if jt l[k]! = 2 then nxt (l.take k).reverse else jt l[k]!:=by
 rw[List.take_succ_eq_append_getElem h,List.reverse_append,List.reverse_singleton,List.singleton_append,nxt,getElem!_pos l k h]
def on (j:Int):Bool:=decide (j=3)||decide (j=4)
def back (j:Int):Bool:=decide (j=3)||decide (j=5)
def vir (l:List Int) (i:Nat):Bool:=decide (0<i)&&decide (cc l[i-1]! = 9)
def jnd (l:List Int) (i:Nat):Bool:=vir l i||(on (nxt (l.take i).reverse)&&back (nxt (l.drop (i+1))))
def jap (r:Int):Bool:=decide (sc r=8)||(decide (sc r=9)||decide (sc r=10))
def ara (r:Int):Bool:=decide (1632<=r)&&decide (r<1642)
def eas (r:Int):Bool:=decide (1776<=r)&&decide (r<1786)
def ok (l:List Int) (i:Nat):Nat->Bool
 | 0=>decide (0<i)&&(decide (l[i-1]! = 108)&&(decide (i+1<l.length)&&decide (l[i+1]! = 108)))
 | 1=>decide (i+1<l.length)&&decide (sc l[i+1]! = 3)
 | 2=>decide (0<i)&&decide (sc l[i-1]! = 5)
 | 3=>jnd l i
 | 4=>vir l i
 | 5=>l.any jap
 | 6 => !(l.any eas)
 | _ => !(l.any ara)
def kyv (r:Int):Int:=if ara r=true then 1632 else if eas r=true then 1776 else r
def kdK (q:Int):Nat:=if q=183 then 0 else if q=885 then 1 else if q=1523 then 2 else if q=1524 then 2 else if q=8204 then 3 else if q=8205 then 4 else if q=12539 then 5 else if q=1632 then 6 else if q=1776 then 7 else 8
def kd (r:Int):Nat:=kdK (kyv r)
def cls (k:Nat):Int:=if k=3 then 7 else if k=4 then 7 else 8
def atC (l:List Int) (i:Nat):Int:=if kd l[i]! < 8/\ok l i (kd l[i]!)=false then cls (kd l[i]!) else 0
theorem between_any(l:List Int)(i:Nat)(A:Option Addr)(n c:Nat)(w:World)(hn:l.length=n)(hi:i<n)(hn1:n<=1000000)(hr:Row w w.heap.size A (cl .i32 l)):Calls Tryz.prog 349 #[.slice A n c,.int .i64 (i:Int)] w (IsB (ok l i 0) w):=by
 have e:ok l i 0=(decide (0<i)&&(decide (l[i-1]! = 108)&&(decide (i+1<l.length)&&decide (l[i+1]! = 108)))):=rfl
 rw[e]
 obtain⟨b,o,rfl,hb,hcc⟩:=hr.at_ (by simp;omega)
 by_cases h0:0<i
 ·have c0:=row_cell hcc (i-1) (by omega)
  obtain⟨p,hp⟩:∃ p,i-1=p:=⟨_,rfl⟩
  have hsub:(i:Int)-1=(p:Int):=by omega
  have hwp:IntKind.i64.wrap (p:Int)=(p:Int):=IntWalk.i64_in _ (by omega)
  have b1:(p:Int)<(n:Int):=by omega
  have b2:(0:Int)<=(p:Int):=by omega
  have b3:(0:Int)<(i:Int):=by omega
  rw[hp]at c0 ⊢
  obtain⟨x,hx⟩:∃ x,l[p]! = x:=⟨_,rfl⟩
  rw[hx]at c0 ⊢
  obtain⟨q,hq⟩:∃ q,i+1=q:=⟨_,rfl⟩
  have hadd:(i:Int)+1=(q:Int):=by omega
  have hwq:IntKind.i64.wrap (q:Int)=(q:Int):=IntWalk.i64_in _ (by omega)
  by_cases h1:x=108
  ·by_cases h2:i+1<n
   ·have c1:=row_cell hcc (i+1) (by omega)
    rw[hq]at c1 ⊢
    have b4:(q:Int)<(n:Int):=by omega
    have b5:(0:Int)<=(q:Int):=by omega
    have e2:decide (q<l.length)=true:=decide_eq_true (by omega)
    rw[e2]
    obtain⟨y,hy⟩:∃ y,l[q]! = y:=⟨_,rfl⟩
    rw[hy]at c1 ⊢
    clear hcc hx hy e hn hr hp hq h2 e2 hi
    by_cases h3:y=108
    ·go_enter Tryz.func349,Tryz.ntmps349
     go_wp2
     go_ret
     exact⟨by simp[h0,h1,h3],Below.refl _ _⟩
    ·go_enter Tryz.func349,Tryz.ntmps349
     go_wp2
     go_ret
     exact⟨by simp[h0,h1,h3],Below.refl _ _⟩
   ·have b4:¬ (q:Int)<(n:Int):=by omega
    have e2:decide (i+1<l.length)=false:=decide_eq_false (by omega)
    rw[e2]
    clear hcc hx e hn hr hp hq h2 e2 hi
    go_enter Tryz.func349,Tryz.ntmps349
    go_wp2
    go_ret
    exact⟨by simp,Below.refl _ _⟩
  ·clear hcc hx e hn hr hp hq hi
   go_enter Tryz.func349,Tryz.ntmps349
   go_wp2
   go_ret
   exact⟨by simp[h1],Below.refl _ _⟩
 ·have b3:¬ (0:Int)<(i:Int):=by omega
  clear hcc e hn hr hi
  go_enter Tryz.func349,Tryz.ntmps349
  go_wp2
  go_ret
  exact⟨by simp,Below.refl _ _⟩
theorem fld(p:List Int)(w:World) :
  (Instr.field 281 (pv p) 2).run Tryz.prog w = .ok (.int .u8 (g p 2)) w/\(Instr.field 281 (pv p) 3).run Tryz.prog w = .ok (.int .u8 (g p 3)) w/\(Instr.field 281 (pv p) 4).run Tryz.prog w = .ok (.int .u8 (g p 4)) w:=⟨by kernel_rfl,by kernel_rfl,by kernel_rfl⟩
theorem before_any(l:List Int)(i:Nat)(A:Option Addr)(n c:Nat)(w:World)(hn:l.length=n)(hi:i<n)(hn1:n<=1000000)(hr:Row w w.heap.size A (cl .i32 l)):Calls Tryz.prog 350 #[.slice A n c,.int .i64 (i:Int)] w (IsB (ok l i 1) w):=by
 have e:ok l i 1=(decide (i+1<l.length)&&decide (sc l[i+1]! = 3)):=rfl
 rw[e]
 obtain⟨b,o,rfl,hb,hcc⟩:=hr.at_ (by simp;omega)
 obtain⟨q,hq⟩:∃ q,i+1=q:=⟨_,rfl⟩
 have hadd:(i:Int)+1=(q:Int):=by omega
 have hwq:IntKind.i64.wrap (q:Int)=(q:Int):=IntWalk.i64_in _ (by omega)
 rw[hq]
 by_cases h2:q<n
 ·have c1:=row_cell hcc q (by omega)
  have b4:(q:Int)<(n:Int):=by omega
  have b5:(0:Int)<=(q:Int):=by omega
  have e2:decide (q<l.length)=true:=decide_eq_true (by omega)
  rw[e2]
  obtain⟨x,hx⟩:∃ x,l[q]! = x:=⟨_,rfl⟩
  rw[hx]at c1 ⊢
  have HO:=Lib.hid (fun w=>Of_any x w)
  have HR:=fun w=>(fld (of x) w).2.2
  unfold sc
  generalize of x=p at HO HR ⊢
  obtain⟨y,hy⟩:∃ y,g p 4=y:=⟨_,rfl⟩
  rw[hy]at HR ⊢
  clear hcc hx e hn hr hq h2 e2 hi hy
  by_cases h:y=3
  ·go_enter Tryz.func350,Tryz.ntmps350
   go_wp2_with(first|(go_at_call 250;refine (HO.out _).mono ?_;rintro e w1 ⟨rfl,hB1⟩)|fail)
   go_ret
   exact⟨by simp[h],hB1⟩
  ·go_enter Tryz.func350,Tryz.ntmps350
   go_wp2_with(first|(go_at_call 250;refine (HO.out _).mono ?_;rintro e w1 ⟨rfl,hB1⟩)|fail)
   go_ret
   exact⟨by simp[h],hB1⟩
 ·have b4:¬ (q:Int)<(n:Int):=by omega
  have e2:decide (q<l.length)=false:=decide_eq_false (by omega)
  rw[e2]
  clear hcc e hn hr hq h2 e2 hi
  go_enter Tryz.func350,Tryz.ntmps350
  go_wp2
  go_ret
  exact⟨by simp,Below.refl _ _⟩
theorem hebrew_any(l:List Int)(i:Nat)(A:Option Addr)(n c:Nat)(w:World)(hn:l.length=n)(hi:i<n)(hn1:n<=1000000)(hr:Row w w.heap.size A (cl .i32 l)):Calls Tryz.prog 351 #[.slice A n c,.int .i64 (i:Int)] w (IsB (ok l i 2) w):=by
 have e:ok l i 2=(decide (0<i)&&decide (sc l[i-1]! = 5)):=rfl
 rw[e]
 obtain⟨b,o,rfl,hb,hcc⟩:=hr.at_ (by simp;omega)
 by_cases h0:0<i
 ·have c0:=row_cell hcc (i-1) (by omega)
  obtain⟨p,hp⟩:∃ p,i-1=p:=⟨_,rfl⟩
  have hsub:(i:Int)-1=(p:Int):=by omega
  have hwp:IntKind.i64.wrap (p:Int)=(p:Int):=IntWalk.i64_in _ (by omega)
  have b1:(p:Int)<(n:Int):=by omega
  have b2:(0:Int)<=(p:Int):=by omega
  have b3:(0:Int)<(i:Int):=by omega
  rw[hp]at c0 ⊢
  obtain⟨x,hx⟩:∃ x,l[p]! = x:=⟨_,rfl⟩
  rw[hx]at c0 ⊢
  have HO:=Lib.hid (fun w=>Of_any x w)
  have HR:=fun w=>(fld (of x) w).2.2
  unfold sc
  generalize of x=p at HO HR ⊢
  obtain⟨y,hy⟩:∃ y,g p 4=y:=⟨_,rfl⟩
  rw[hy]at HR ⊢
  clear hcc hx e hn hr hp hi hy
  by_cases h:y=5
  ·go_enter Tryz.func351,Tryz.ntmps351
   go_wp2_with(first|(go_at_call 250;refine (HO.out _).mono ?_;rintro e w1 ⟨rfl,hB1⟩)|fail)
   go_ret
   exact⟨by simp[h,h0],hB1⟩
  ·go_enter Tryz.func351,Tryz.ntmps351
   go_wp2_with(first|(go_at_call 250;refine (HO.out _).mono ?_;rintro e w1 ⟨rfl,hB1⟩)|fail)
   go_ret
   exact⟨by simp[h],hB1⟩
 ·have b3:¬ (0:Int)<(i:Int):=by omega
  clear hcc e hn hr hi
  go_enter Tryz.func351,Tryz.ntmps351
  go_wp2
  go_ret
  exact⟨by simp,Below.refl _ _⟩
theorem virama_any(l:List Int)(i:Nat)(A:Option Addr)(n c:Nat)(w:World)(hn:l.length=n)(hi:i<n)(hn1:n<=1000000)(hr:Row w w.heap.size A (cl .i32 l)):Calls Tryz.prog 353 #[.slice A n c,.int .i64 (i:Int)] w (IsB (vir l i) w):=by
 unfold vir
 obtain⟨b,o,rfl,hb,hcc⟩:=hr.at_ (by simp;omega)
 by_cases h0:0<i
 ·have c0:=row_cell hcc (i-1) (by omega)
  obtain⟨p,hp⟩:∃ p,i-1=p:=⟨_,rfl⟩
  have hsub:(i:Int)-1=(p:Int):=by omega
  have hwp:IntKind.i64.wrap (p:Int)=(p:Int):=IntWalk.i64_in _ (by omega)
  have b1:(p:Int)<(n:Int):=by omega
  have b2:(0:Int)<=(p:Int):=by omega
  have b3:(0:Int)<(i:Int):=by omega
  rw[hp]at c0 ⊢
  obtain⟨x,hx⟩:∃ x,l[p]! = x:=⟨_,rfl⟩
  rw[hx]at c0 ⊢
  have HO:=Lib.hid (fun w=>Of_any x w)
  have HR:=fun w=>(fld (of x) w).2.1
  unfold cc
  generalize of x=p at HO HR ⊢
  obtain⟨y,hy⟩:∃ y,g p 3=y:=⟨_,rfl⟩
  rw[hy]at HR ⊢
  clear hcc hx hn hr hp hi hy
  by_cases h:y=9
  ·go_enter Tryz.func353,Tryz.ntmps353
   go_wp2_with(first|(go_at_call 250;refine (HO.out _).mono ?_;rintro e w1 ⟨rfl,hB1⟩)|fail)
   go_ret
   exact⟨by simp[h,h0],hB1⟩
  ·go_enter Tryz.func353,Tryz.ntmps353
   go_wp2_with(first|(go_at_call 250;refine (HO.out _).mono ?_;rintro e w1 ⟨rfl,hB1⟩)|fail)
   go_ret
   exact⟨by simp[h],hB1⟩
 ·have b3:¬ (0:Int)<(i:Int):=by omega
  clear hcc hn hr hi
  go_enter Tryz.func353,Tryz.ntmps353
  go_wp2
  go_ret
  exact⟨by simp,Below.refl _ _⟩
theorem arabic_any(r:Int)(w:World):Calls Tryz.prog 357 #[.int .i32 r] w (IsB (ara r) w):=by
 unfold ara
 by_cases h0:1632<=r
 ·by_cases h1:r<1642
  ·go_enter Tryz.func357,Tryz.ntmps357
   go_wp2
   go_ret
   exact⟨by simp[h0,h1],Below.refl _ _⟩
  ·go_enter Tryz.func357,Tryz.ntmps357
   go_wp2
   go_ret
   exact⟨by simp;omega,Below.refl _ _⟩
 ·go_enter Tryz.func357,Tryz.ntmps357
  go_wp2
  go_ret
  exact⟨by simp;omega,Below.refl _ _⟩
theorem east_any(r:Int)(w:World):Calls Tryz.prog 358 #[.int .i32 r] w (IsB (eas r) w):=by
 unfold eas
 by_cases h0:1776<=r
 ·by_cases h1:r<1786
  ·go_enter Tryz.func358,Tryz.ntmps358
   go_wp2
   go_ret
   exact⟨by simp[h0,h1],Below.refl _ _⟩
  ·go_enter Tryz.func358,Tryz.ntmps358
   go_wp2
   go_ret
   exact⟨by simp;omega,Below.refl _ _⟩
 ·go_enter Tryz.func358,Tryz.ntmps358
  go_wp2
  go_ret
  exact⟨by simp;omega,Below.refl _ _⟩
theorem japanese_any(r:Int)(w:World):Calls Tryz.prog 381 #[.int .i32 r] w (IsB (jap r) w):=by
 unfold jap sc
 have HO:=Lib.hid (fun w=>Of_any r w)
 have HR:=fun w=>(fld (of r) w).2.2
 generalize of r=p at HO HR ⊢
 obtain⟨y,hy⟩:∃ y,g p 4=y:=⟨_,rfl⟩
 rw[hy]at HR ⊢
 clear hy
 by_cases h8:y=8
 ·go_enter Tryz.func381,Tryz.ntmps381
  go_wp2_with(first|(go_at_call 250;refine (HO.out _).mono ?_;rintro e w1 ⟨rfl,hB1⟩)|fail)
  go_ret
  exact⟨by simp[h8],hB1⟩
 ·by_cases h9:y=9
  ·go_enter Tryz.func381,Tryz.ntmps381
   go_wp2_with(first|(go_at_call 250;refine (HO.out _).mono ?_;rintro e w1 ⟨rfl,hB1⟩)|fail)
   go_ret
   exact⟨by simp[h9],hB1⟩
  ·by_cases h10:y=10
   ·go_enter Tryz.func381,Tryz.ntmps381
    go_wp2_with(first|(go_at_call 250;refine (HO.out _).mono ?_;rintro e w1 ⟨rfl,hB1⟩)|fail)
    go_ret
    exact⟨by simp[h10],hB1⟩
   ·go_enter Tryz.func381,Tryz.ntmps381
    go_wp2_with(first|(go_at_call 250;refine (HO.out _).mono ?_;rintro e w1 ⟨rfl,hB1⟩)|fail)
    go_ret
    exact⟨by simp[h8,h9,h10],hB1⟩
def PlaceB (q:Bool) (w:World) (e:Ending) (w':World):Prop:=∃ i:Int,e = .returned (.int .i64 i)/\decide (0<=i)=q/\Below w.heap.size w w'
theorem Index_arabic(l:List Int)(A:Option Addr)(n c:Nat)(w:World)(hn:l.length=n)(hn1:n<=1000000)(hr:Row w w.heap.size A (cl .i32 l)):Calls Tryz.prog 126 #[.slice A n c,.func (.func 357) #[] #[]] w (PlaceB (l.any ara) w):=by
 have HN:=Lib.hid hn
 clear hn
 go_enter Tryz.func126,Tryz.ntmps126
 go_wp2_with fail
 go_loopg [8] n (fun m s8 wr => ∃ k:Nat,s8 = .int .i64 (k:Int)/\m=n-k/\k<=n/\Hid (∀ j,j<k->ara l[j]! = false)/\Below w.heap.size w wr)
 case atStart=>exact⟨0,rfl,rfl,Nat.zero_le _,Lib.hid (fun j hj=>by omega),Below.refl _ _⟩
 case round =>
  obtain⟨k,rfl,rfl,hk,HNo,hB⟩:=hrel
  by_cases hlt:k<n
  ·have hltz:(k:Int)<(n:Int):=by omega
   obtain⟨b,o,rfl,hb,hcc⟩:=(hr.below hB).at_ (by have:=HN.out;simp;omega)
   have c0:=row_cell hcc k (by rw[HN.out];exact hlt)
   have hm:=mems (l:=l) (i:=k) (by rw[HN.out];exact hlt)
   obtain⟨y,hy⟩:∃ y,l[k]! = y:=⟨_,rfl⟩
   rw[hy]at c0 hm
   have HY:=Lib.hid hy
   have HM:=Lib.hid hm
   have HC:=Lib.hid (fun w=>arabic_any y w)
   obtain⟨q,hq⟩:∃ q,ara y=q:=⟨_,rfl⟩
   rw[hq]at HC
   have HV:=Lib.hid hq
   clear hcc hy hm hq
   cases q with
   | true =>
    have HQ:Hid (l.any ara=true):=Lib.hid (List.any_eq_true.2 ⟨y,HM.out,HV.out⟩)
    go_wp2_with(first|(go_at_call 357;refine (HC.out _).mono ?_;rintro e w1 ⟨rfl,hB1⟩)|fail)
    go_ret
    exact⟨k,rfl,by rw[HQ.out];exact decide_eq_true (by omega),hB.trans (hB1.mono hB.size)⟩
   | false =>
    go_wp2_with(first|(go_at_call 357;refine (HC.out _).mono ?_;rintro e w1 ⟨rfl,hB1⟩)|fail)
    go_roundg (n-(k+1))
    case measure=>omega
    case rel =>
     refine⟨k+1,by go_num,rfl,by omega,Lib.hid (fun j hj => ?_),hB.trans (hB1.mono hB.size)⟩
     by_cases hjk:j=k
     ·subst hjk;rw[HY.out];exact HV.out
     ·exact HNo.out j (by omega)
  ·obtain rfl:k=n:=by omega
   have hltz:¬ ((k:Nat):Int)<(k:Int):=by omega
   have HQ:Hid (l.any ara=false):=Lib.hid (by
    rw[List.any_eq_false]
    intro r h
    obtain⟨j,hj,e⟩:=List.getElem_of_mem h
    have:=HNo.out j (by have:=HN.out;omega)
    rw[getElem!_pos l j hj,e]at this
    rw[this]
    simp)
   go_wp2_with fail
   go_ret
   exact⟨-1,rfl,by rw[HQ.out];rfl,hB⟩
theorem Contains_arabic(l:List Int)(A:Option Addr)(n c:Nat)(w:World)(hn:l.length=n)(hn1:n<=1000000)(hr:Row w w.heap.size A (cl .i32 l)):Calls Tryz.prog 90 #[.slice A n c,.func (.func 357) #[] #[]] w (IsB (l.any ara) w):=by
 have HI:=Lib.hid (Index_arabic l A n c w hn hn1 hr)
 generalize l.any ara=q at HI ⊢
 clear hn hr
 go_enter Tryz.func90,Tryz.ntmps90
 go_wp2_with(first|(go_at_call 126;refine HI.out.mono ?_;rintro e w1 ⟨i,rfl,hi,hB1⟩)|fail)
 go_ret
 exact⟨by rw[<-hi];first|rfl|simp,hB1⟩
theorem Index_east(l:List Int)(A:Option Addr)(n c:Nat)(w:World)(hn:l.length=n)(hn1:n<=1000000)(hr:Row w w.heap.size A (cl .i32 l)):Calls Tryz.prog 126 #[.slice A n c,.func (.func 358) #[] #[]] w (PlaceB (l.any eas) w):=by
 have HN:=Lib.hid hn
 clear hn
 go_enter Tryz.func126,Tryz.ntmps126
 go_wp2_with fail
 go_loopg [8] n (fun m s8 wr => ∃ k:Nat,s8 = .int .i64 (k:Int)/\m=n-k/\k<=n/\Hid (∀ j,j<k->eas l[j]! = false)/\Below w.heap.size w wr)
 case atStart=>exact⟨0,rfl,rfl,Nat.zero_le _,Lib.hid (fun j hj=>by omega),Below.refl _ _⟩
 case round =>
  obtain⟨k,rfl,rfl,hk,HNo,hB⟩:=hrel
  by_cases hlt:k<n
  ·have hltz:(k:Int)<(n:Int):=by omega
   obtain⟨b,o,rfl,hb,hcc⟩:=(hr.below hB).at_ (by have:=HN.out;simp;omega)
   have c0:=row_cell hcc k (by rw[HN.out];exact hlt)
   have hm:=mems (l:=l) (i:=k) (by rw[HN.out];exact hlt)
   obtain⟨y,hy⟩:∃ y,l[k]! = y:=⟨_,rfl⟩
   rw[hy]at c0 hm
   have HY:=Lib.hid hy
   have HM:=Lib.hid hm
   have HC:=Lib.hid (fun w=>east_any y w)
   obtain⟨q,hq⟩:∃ q,eas y=q:=⟨_,rfl⟩
   rw[hq]at HC
   have HV:=Lib.hid hq
   clear hcc hy hm hq
   cases q with
   | true =>
    have HQ:Hid (l.any eas=true):=Lib.hid (List.any_eq_true.2 ⟨y,HM.out,HV.out⟩)
    go_wp2_with(first|(go_at_call 358;refine (HC.out _).mono ?_;rintro e w1 ⟨rfl,hB1⟩)|fail)
    go_ret
    exact⟨k,rfl,by rw[HQ.out];exact decide_eq_true (by omega),hB.trans (hB1.mono hB.size)⟩
   | false =>
    go_wp2_with(first|(go_at_call 358;refine (HC.out _).mono ?_;rintro e w1 ⟨rfl,hB1⟩)|fail)
    go_roundg (n-(k+1))
    case measure=>omega
    case rel =>
     refine⟨k+1,by go_num,rfl,by omega,Lib.hid (fun j hj => ?_),hB.trans (hB1.mono hB.size)⟩
     by_cases hjk:j=k
     ·subst hjk;rw[HY.out];exact HV.out
     ·exact HNo.out j (by omega)
  ·obtain rfl:k=n:=by omega
   have hltz:¬ ((k:Nat):Int)<(k:Int):=by omega
   have HQ:Hid (l.any eas=false):=Lib.hid (by
    rw[List.any_eq_false]
    intro r h
    obtain⟨j,hj,e⟩:=List.getElem_of_mem h
    have:=HNo.out j (by have:=HN.out;omega)
    rw[getElem!_pos l j hj,e]at this
    rw[this]
    simp)
   go_wp2_with fail
   go_ret
   exact⟨-1,rfl,by rw[HQ.out];rfl,hB⟩
theorem Contains_east(l:List Int)(A:Option Addr)(n c:Nat)(w:World)(hn:l.length=n)(hn1:n<=1000000)(hr:Row w w.heap.size A (cl .i32 l)):Calls Tryz.prog 90 #[.slice A n c,.func (.func 358) #[] #[]] w (IsB (l.any eas) w):=by
 have HI:=Lib.hid (Index_east l A n c w hn hn1 hr)
 generalize l.any eas=q at HI ⊢
 clear hn hr
 go_enter Tryz.func90,Tryz.ntmps90
 go_wp2_with(first|(go_at_call 126;refine HI.out.mono ?_;rintro e w1 ⟨i,rfl,hi,hB1⟩)|fail)
 go_ret
 exact⟨by rw[<-hi];first|rfl|simp,hB1⟩
theorem Index_japanese(l:List Int)(A:Option Addr)(n c:Nat)(w:World)(hn:l.length=n)(hn1:n<=1000000)(hr:Row w w.heap.size A (cl .i32 l)):Calls Tryz.prog 126 #[.slice A n c,.func (.func 381) #[] #[]] w (PlaceB (l.any jap) w):=by
 have HN:=Lib.hid hn
 clear hn
 go_enter Tryz.func126,Tryz.ntmps126
 go_wp2_with fail
 go_loopg [8] n (fun m s8 wr => ∃ k:Nat,s8 = .int .i64 (k:Int)/\m=n-k/\k<=n/\Hid (∀ j,j<k->jap l[j]! = false)/\Below w.heap.size w wr)
 case atStart=>exact⟨0,rfl,rfl,Nat.zero_le _,Lib.hid (fun j hj=>by omega),Below.refl _ _⟩
 case round =>
  obtain⟨k,rfl,rfl,hk,HNo,hB⟩:=hrel
  by_cases hlt:k<n
  ·have hltz:(k:Int)<(n:Int):=by omega
   obtain⟨b,o,rfl,hb,hcc⟩:=(hr.below hB).at_ (by have:=HN.out;simp;omega)
   have c0:=row_cell hcc k (by rw[HN.out];exact hlt)
   have hm:=mems (l:=l) (i:=k) (by rw[HN.out];exact hlt)
   obtain⟨y,hy⟩:∃ y,l[k]! = y:=⟨_,rfl⟩
   rw[hy]at c0 hm
   have HY:=Lib.hid hy
   have HM:=Lib.hid hm
   have HC:=Lib.hid (fun w=>japanese_any y w)
   obtain⟨q,hq⟩:∃ q,jap y=q:=⟨_,rfl⟩
   rw[hq]at HC
   have HV:=Lib.hid hq
   clear hcc hy hm hq
   cases q with
   | true =>
    have HQ:Hid (l.any jap=true):=Lib.hid (List.any_eq_true.2 ⟨y,HM.out,HV.out⟩)
    go_wp2_with(first|(go_at_call 381;refine (HC.out _).mono ?_;rintro e w1 ⟨rfl,hB1⟩)|fail)
    go_ret
    exact⟨k,rfl,by rw[HQ.out];exact decide_eq_true (by omega),hB.trans (hB1.mono hB.size)⟩
   | false =>
    go_wp2_with(first|(go_at_call 381;refine (HC.out _).mono ?_;rintro e w1 ⟨rfl,hB1⟩)|fail)
    go_roundg (n-(k+1))
    case measure=>omega
    case rel =>
     refine⟨k+1,by go_num,rfl,by omega,Lib.hid (fun j hj => ?_),hB.trans (hB1.mono hB.size)⟩
     by_cases hjk:j=k
     ·subst hjk;rw[HY.out];exact HV.out
     ·exact HNo.out j (by omega)
  ·obtain rfl:k=n:=by omega
   have hltz:¬ ((k:Nat):Int)<(k:Int):=by omega
   have HQ:Hid (l.any jap=false):=Lib.hid (by
    rw[List.any_eq_false]
    intro r h
    obtain⟨j,hj,e⟩:=List.getElem_of_mem h
    have:=HNo.out j (by have:=HN.out;omega)
    rw[getElem!_pos l j hj,e]at this
    rw[this]
    simp)
   go_wp2_with fail
   go_ret
   exact⟨-1,rfl,by rw[HQ.out];rfl,hB⟩
theorem Contains_japanese(l:List Int)(A:Option Addr)(n c:Nat)(w:World)(hn:l.length=n)(hn1:n<=1000000)(hr:Row w w.heap.size A (cl .i32 l)):Calls Tryz.prog 90 #[.slice A n c,.func (.func 381) #[] #[]] w (IsB (l.any jap) w):=by
 have HI:=Lib.hid (Index_japanese l A n c w hn hn1 hr)
 generalize l.any jap=q at HI ⊢
 clear hn hr
 go_enter Tryz.func90,Tryz.ntmps90
 go_wp2_with(first|(go_at_call 126;refine HI.out.mono ?_;rintro e w1 ⟨i,rfl,hi,hB1⟩)|fail)
 go_ret
 exact⟨by rw[<-hi];first|rfl|simp,hB1⟩
theorem withJapanese_any(l:List Int)(i:Nat)(A:Option Addr)(n c:Nat)(w:World)(hn:l.length=n)(hn1:n<=1000000)(hr:Row w w.heap.size A (cl .i32 l)):Calls Tryz.prog 354 #[.slice A n c,.int .i64 (i:Int)] w (IsB (ok l i 5) w):=by
 have HI:=Lib.hid (Contains_japanese l A n c w hn hn1 hr)
 have e:ok l i 5=l.any jap:=rfl
 rw[e]
 clear e
 generalize l.any jap=q at HI ⊢
 clear hn hr
 go_enter Tryz.func354,Tryz.ntmps354
 go_wp2_with(first|(go_at_call 90;refine HI.out.mono ?_;rintro e w1 ⟨rfl,hB1⟩)|fail)
 go_ret
 exact⟨rfl,hB1⟩
theorem withoutEast_any(l:List Int)(i:Nat)(A:Option Addr)(n c:Nat)(w:World)(hn:l.length=n)(hn1:n<=1000000)(hr:Row w w.heap.size A (cl .i32 l)):Calls Tryz.prog 355 #[.slice A n c,.int .i64 (i:Int)] w (IsB (ok l i 6) w):=by
 have HI:=Lib.hid (Contains_east l A n c w hn hn1 hr)
 have e:ok l i 6 = !(l.any eas):=rfl
 rw[e]
 clear e
 generalize l.any eas=q at HI ⊢
 clear hn hr
 go_enter Tryz.func355,Tryz.ntmps355
 go_wp2_with(first|(go_at_call 90;refine HI.out.mono ?_;rintro e w1 ⟨rfl,hB1⟩)|fail)
 go_ret
 exact⟨rfl,hB1⟩
theorem withoutArabic_any(l:List Int)(i:Nat)(A:Option Addr)(n c:Nat)(w:World)(hn:l.length=n)(hn1:n<=1000000)(hr:Row w w.heap.size A (cl .i32 l)):Calls Tryz.prog 356 #[.slice A n c,.int .i64 (i:Int)] w (IsB (ok l i 7) w):=by
 have HI:=Lib.hid (Contains_arabic l A n c w hn hn1 hr)
 have e:ok l i 7 = !(l.any ara):=rfl
 rw[e]
 clear e
 generalize l.any ara=q at HI ⊢
 clear hn hr
 go_enter Tryz.func356,Tryz.ntmps356
 go_wp2_with(first|(go_at_call 90;refine HI.out.mono ?_;rintro e w1 ⟨rfl,hB1⟩)|fail)
 go_ret
 exact⟨rfl,hB1⟩
theorem joinF_any(l:List Int)(i:Nat)(A:Option Addr)(n c:Nat)(w:World)(hn:l.length=n)(hi:i<n)(hn1:n<=1000000)(hr:Row w w.heap.size A (cl .i32 l)):Calls Tryz.prog 379 #[.slice A n c,.int .i64 (i:Int),.int .i64 1] w (Tells (.int .u8 (nxt (l.drop (i+1)))) w):=by
 have HN:=Lib.hid hn
 clear hn
 go_enter Tryz.func379,Tryz.ntmps379
 go_wp2_with fail
 go_loopg [1] (n-(i+1)) (fun m s1 wr => ∃ k:Nat,s1 = .int .i64 (k:Int)/\m=n-k/\k<=n/\Hid (nxt (l.drop k)=nxt (l.drop (i+1)))/\Below w.heap.size w wr)
 case atStart=>exact⟨i+1,by go_num,rfl,by omega,Lib.hid rfl,Below.refl _ _⟩
 case round =>
  obtain⟨k,rfl,rfl,hk,HE,hB⟩:=hrel
  have h0z:(0:Int)<=(k:Int):=by omega
  by_cases hlt:k<n
  ·have hltz:(k:Int)<(n:Int):=by omega
   obtain⟨b,o,rfl,hb,hcc⟩:=(hr.below hB).at_ (by have:=HN.out;simp;omega)
   have c0:=row_cell hcc k (by rw[HN.out];exact hlt)
   obtain⟨y,hy⟩:∃ y,l[k]! = y:=⟨_,rfl⟩
   have hnx:=nxt_drop (l:=l) (k:=k) (by rw[HN.out];exact hlt)
   rw[hy]at c0 hnx
   have HO:=Lib.hid (fun w=>Of_any y w)
   have HR:=fun w=>(fld (of y) w).1
   unfold jt at hnx
   generalize of y=p at HO HR hnx
   obtain⟨j,hj⟩:∃ j,g p 2=j:=⟨_,rfl⟩
   rw[hj]at HR hnx
   have HX:Hid (j=2->nxt (l.drop k)=nxt (l.drop (k+1))):=Lib.hid (fun h=>hnx.trans (if_pos h))
   have HY:Hid (¬ j=2->nxt (l.drop k)=j):=Lib.hid (fun h=>hnx.trans (if_neg h))
   clear hcc hy hj hnx
   by_cases h2:j=2
   ·subst h2
    go_wp2_with(first|(go_at_call 250;refine (HO.out _).mono ?_;rintro e w1 ⟨rfl,hB1⟩)|fail)
    go_roundg (n-(k+1))
    case measure=>omega
    case rel=>exact⟨k+1,by go_num,rfl,by omega,Lib.hid ((HX.out (by first|trivial|rfl)).symm.trans HE.out),hB.trans (hB1.mono hB.size)⟩
   ·have HJ:Hid (nxt (l.drop (i+1))=j):=Lib.hid (HE.out.symm.trans (HY.out h2))
    go_wp2_with(first|(go_at_call 250;refine (HO.out _).mono ?_;rintro e w1 ⟨rfl,hB1⟩)|fail)
    go_ret
    exact⟨by rw[HJ.out];rfl,hB.trans (hB1.mono hB.size)⟩
  ·obtain rfl:k=n:=by omega
   have hltz:¬ ((k:Nat):Int)<(k:Int):=by omega
   have HJ:Hid (nxt (l.drop (i+1))=0):=Lib.hid (HE.out.symm.trans (nxt_end (by rw[HN.out];exact Nat.le_refl _)))
   go_wp2_with fail
   go_ret
   exact⟨by rw[HJ.out];rfl,hB⟩
theorem joinB_any(l:List Int)(i:Nat)(A:Option Addr)(n c:Nat)(w:World)(hn:l.length=n)(hi:i<n)(hn1:n<=1000000)(hr:Row w w.heap.size A (cl .i32 l)):Calls Tryz.prog 379 #[.slice A n c,.int .i64 (i:Int),.int .i64 (-1)] w (Tells (.int .u8 (nxt (l.take i).reverse)) w):=by
 have HN:=Lib.hid hn
 clear hn
 go_enter Tryz.func379,Tryz.ntmps379
 go_wp2_with fail
 go_loopg [1] i (fun m s1 wr => ∃ k:Nat,s1 = .int .i64 ((k:Int)-1)/\m=k/\k<=i/\Hid (nxt (l.take k).reverse=nxt (l.take i).reverse)/\Below w.heap.size w wr)
 case atStart=>exact⟨i,by go_num,rfl,by omega,Lib.hid rfl,Below.refl _ _⟩
 case round =>
  obtain⟨k,rfl,hm,hk,HE,hB⟩:=hrel
  cases k with
  | succ k =>
   have e1:((k+1:Nat):Int)-1=(k:Int):=by omega
   rw[e1]
   clear e1
   have h0z:(0:Int)<=(k:Int):=by omega
   have hltz:(k:Int)<(n:Int):=by omega
   obtain⟨b,o,rfl,hb,hcc⟩:=(hr.below hB).at_ (by have:=HN.out;simp;omega)
   have c0:=row_cell hcc k (by rw[HN.out];omega)
   obtain⟨y,hy⟩:∃ y,l[k]! = y:=⟨_,rfl⟩
   have hnx:=nxt_take (l:=l) (k:=k) (by rw[HN.out];omega)
   rw[hy]at c0 hnx
   have HO:=Lib.hid (fun w=>Of_any y w)
   have HR:=fun w=>(fld (of y) w).1
   unfold jt at hnx
   generalize of y=p at HO HR hnx
   obtain⟨j,hj⟩:∃ j,g p 2=j:=⟨_,rfl⟩
   rw[hj]at HR hnx
   have HX:Hid (j=2->nxt (l.take (k+1)).reverse=nxt (l.take k).reverse):=Lib.hid (fun h=>hnx.trans (if_pos h))
   have HY:Hid (¬ j=2->nxt (l.take (k+1)).reverse=j):=Lib.hid (fun h=>hnx.trans (if_neg h))
   clear hcc hy hj hnx
   by_cases h2:j=2
   ·subst h2
    go_wp2_with(first|(go_at_call 250;refine (HO.out _).mono ?_;rintro e w1 ⟨rfl,hB1⟩)|fail)
    go_roundg k
    case measure=>omega
    case rel=>exact⟨k,by go_num,rfl,by omega,Lib.hid ((HX.out (by first|trivial|rfl)).symm.trans HE.out),hB.trans (hB1.mono hB.size)⟩
   ·have HJ:Hid (nxt (l.take i).reverse=j):=Lib.hid (HE.out.symm.trans (HY.out h2))
    go_wp2_with(first|(go_at_call 250;refine (HO.out _).mono ?_;rintro e w1 ⟨rfl,hB1⟩)|fail)
    go_ret
    exact⟨by rw[HJ.out];rfl,hB.trans (hB1.mono hB.size)⟩
  | zero =>
   have HJ:Hid (nxt (l.take i).reverse=0):=Lib.hid HE.out.symm
   have e1:((0:Nat):Int)-1 = -1:=by omega
   rw[e1]
   clear e1
   go_wp2_with fail
   go_ret
   exact⟨by rw[HJ.out];rfl,hB⟩
theorem joinsOn_any(j:Int)(w:World):Calls Tryz.prog 378 #[.int .u8 j] w (IsB (on j) w):=by
 unfold on
 by_cases h3:j=3
 ·go_enter Tryz.func378,Tryz.ntmps378
  go_wp2
  go_ret
  exact⟨by simp[h3],Below.refl _ _⟩
 ·go_enter Tryz.func378,Tryz.ntmps378
  go_wp2
  go_ret
  exact⟨by first|rfl|simp[h3],Below.refl _ _⟩
theorem joinsBack_any(j:Int)(w:World):Calls Tryz.prog 380 #[.int .u8 j] w (IsB (back j) w):=by
 unfold back
 by_cases h3:j=3
 ·go_enter Tryz.func380,Tryz.ntmps380
  go_wp2
  go_ret
  exact⟨by simp[h3],Below.refl _ _⟩
 ·go_enter Tryz.func380,Tryz.ntmps380
  go_wp2
  go_ret
  exact⟨by first|rfl|simp[h3],Below.refl _ _⟩
theorem parts_any(l:List Int)(i:Nat)(A:Option Addr)(n c:Nat)(w:World)(hn:l.length=n)(hi:i<n)(hn1:n<=1000000)(hr:Row w w.heap.size A (cl .i32 l)):Calls Tryz.prog 352 #[.slice A n c,.int .i64 (i:Int)] w (IsB (ok l i 3) w):=by
 have e:ok l i 3=(vir l i||(on (nxt (l.take i).reverse)&&back (nxt (l.drop (i+1))))):=rfl
 rw[e]
 clear e
 have HV:=Lib.hid (virama_any l i A n c w hn hi hn1 hr)
 have HA:=Lib.hid (fun W (h:Below w.heap.size w W)=>joinB_any l i A n c W hn hi hn1 (upR hr h))
 have HF:=Lib.hid (fun W (h:Below w.heap.size w W)=>joinF_any l i A n c W hn hi hn1 (upR hr h))
 generalize nxt (l.take i).reverse=ja at HA ⊢
 generalize nxt (l.drop (i+1))=jf at HF ⊢
 generalize vir l i=v at HV ⊢
 have HOn:=Lib.hid (joinsOn_any ja)
 have HBk:=Lib.hid (joinsBack_any jf)
 obtain⟨p,hp⟩:∃ p,on ja=p:=⟨_,rfl⟩
 obtain⟨q,hq⟩:∃ q,back jf=q:=⟨_,rfl⟩
 rw[hp]at HOn ⊢
 rw[hq]at HBk ⊢
 clear hp hq hn hi hr
 cases v with
 | true =>
  go_enter Tryz.func352,Tryz.ntmps352
  go_wp2_with(first|(go_at_call 353;refine HV.out.mono ?_;rintro e w1 ⟨rfl,hB1⟩)|fail)
  go_ret
  exact⟨rfl,hB1⟩
 | false =>
  cases p with
  | false =>
   go_enter Tryz.func352,Tryz.ntmps352
   go_wp2_with(first|(go_at_call 353;refine HV.out.mono ?_;rintro e w1 ⟨rfl,hB1⟩)|(go_at_call 379;refine (HA.out _ hB1).mono ?_;rintro e w2 ⟨rfl,hB2⟩;have hB2':=upB hB1 hB2)|(go_at_call 378;refine (HOn.out _).mono ?_;rintro e w3 ⟨rfl,hB3⟩;have hB3':=upB hB2' hB3)|fail)
   go_ret
   exact⟨rfl,hB3'⟩
  | true =>
   go_enter Tryz.func352,Tryz.ntmps352
   go_wp2_with(first|(go_at_call 353;refine HV.out.mono ?_;rintro e w1 ⟨rfl,hB1⟩)|(go_at_call 379;refine (HF.out _ hB3').mono ?_;rintro e w4 ⟨rfl,hB4⟩;have hB4':=upB hB3' hB4)|(go_at_call 379;refine (HA.out _ hB1).mono ?_;rintro e w2 ⟨rfl,hB2⟩;have hB2':=upB hB1 hB2)|(go_at_call 378;refine (HOn.out _).mono ?_;rintro e w3 ⟨rfl,hB3⟩;have hB3':=upB hB2' hB3)|(go_at_call 380;refine (HBk.out _).mono ?_;rintro e w5 ⟨rfl,hB5⟩;have hB5':=upB hB4' hB5)|fail)
   go_ret
   exact⟨by simp,hB5'⟩
theorem key_any(r:Int)(w:World):Calls Tryz.prog 311 #[.int .i32 r] w (Tells (.int .i32 (kyv r)) w):=by
 unfold kyv
 have HA:=Lib.hid (arabic_any r)
 have HE:=Lib.hid (east_any r)
 generalize ara r=p at HA ⊢
 generalize eas r=q at HE ⊢
 cases p with
 | true =>
  go_enter Tryz.func311,Tryz.ntmps311
  go_wp2_with(first|(go_at_call 357;refine (HA.out _).mono ?_;rintro e w1 ⟨rfl,hB1⟩)|fail)
  go_ret
  exact⟨rfl,hB1⟩
 | false =>
  cases q with
  | true =>
   go_enter Tryz.func311,Tryz.ntmps311
   go_wp2_with(first|(go_at_call 357;refine (HA.out _).mono ?_;rintro e w1 ⟨rfl,hB1⟩)|(go_at_call 358;refine (HE.out _).mono ?_;rintro e w2 ⟨rfl,hB2⟩)|fail)
   go_ret
   exact⟨rfl,upB hB1 hB2⟩
  | false =>
   go_enter Tryz.func311,Tryz.ntmps311
   go_wp2_with(first|(go_at_call 357;refine (HA.out _).mono ?_;rintro e w1 ⟨rfl,hB1⟩)|(go_at_call 358;refine (HE.out _).mono ?_;rintro e w2 ⟨rfl,hB2⟩)|fail)
   go_ret
   exact⟨rfl,upB hB1 hB2⟩
end Go.Proofs.YtkibdkfdffkkfaaGreatDoor.Ctx
namespace Go.Proofs.YtkibdkfdffkkfaaGreatDoor.Ctx
open Go.RowKit Go.Maps Ucd
def RV (v:Value):Option (DataW Value × List MemPlace):=some (.held v,[])
def whl (k:Nat):Bool:=decide (5<=k)
def fnC:Nat->Value
 | 0 => .func (.func 349) #[] #[]
 | 1 => .func (.func 350) #[] #[]
 | 2 => .func (.func 351) #[] #[]
 | 3 => .func (.func 352) #[] #[]
 | 4 => .func (.func 353) #[] #[]
 | 5 => .func (.func 354) #[] #[]
 | 6 => .func (.func 355) #[] #[]
 | _ => .func (.func 356) #[] #[]
def cvc (k:Nat):Array Value:=#[.int .u8 (cls k),.bool (whl k),fnC k]
def cv (k:Nat):Value:=.agg (cvc k)
def cz:Value:=.agg #[.int .u8 0,.bool false,.nilFunc]
theorem zeroC(w:World):(zeroValue 350).run Tryz.prog w = .ok cz w:=by kernel_rfl
theorem law32:Keyed Tryz.prog 21:=int_keyed Tryz.underlying21
def ki (q:Int):Lit:=.int .i32 q
theorem key32{q:Int}(h0:-2147483648<=q)(h1:q<=2147483647):keyOf Tryz.prog 21 (.int .i32 q)=some (ki q) :=
 keyOf_int_mk Tryz.underlying21 (by simp[Lit.wf,IntKind.min,IntKind.max,IntKind.bits,IntKind.signed];omega)
def D9:DataW Value:=(((((((((DataW.map []).put (ki 183) (.held (cv 0))).put (ki 885) (.held (cv 1))).put (ki 1523) (.held (cv 2))).put (ki 1524) (.held (cv 2))).put (ki 8204) (.held (cv 3))).put (ki 8205) (.held (cv 4))).put (ki 12539) (.held (cv 5))).put (ki 1632) (.held (cv 6))).put (ki 1776) (.held (cv 7))
theorem D9_eq:D9 = .map [(ki 183,.held (cv 0)),(ki 885,.held (cv 1)),(ki 1523,.held (cv 2)),(ki 1524,.held (cv 2)),(ki 1632,.held (cv 6)),(ki 1776,.held (cv 7)),(ki 8204,.held (cv 3)),(ki 8205,.held (cv 4)),(ki 12539,.held (cv 5))]:=by
 simp[D9,DataW.put,DataW.insert,ki,Lit.before,Lit.sameKey]
theorem kdK_cases(q:Int):(q=183∨q=885∨q=1523∨q=1524∨q=8204∨q=8205∨q=12539∨q=1632∨q=1776)∨(q≠183/\q≠885/\q≠1523/\q≠1524/\q≠8204/\q≠8205/\q≠12539/\q≠1632/\q≠1776):=by omega
theorem D9_at(q:Int):D9.atKey (ki q) (.held cz) = .held (if kdK q<8 then cv (kdK q) else cz)/\has D9 (ki q)=decide (kdK q<8):=by
 rw[D9_eq]
 rcases kdK_cases q with h|⟨h1,h2,h3,h4,h5,h6,h7,h8,h9⟩
 ·rcases h with rfl|rfl|rfl|rfl|rfl|rfl|rfl|rfl|rfl<;>exact⟨rfl,rfl⟩
 ·have e:kdK q=8:=by simp[kdK,h1,h2,h3,h4,h5,h6,h7,h8,h9]
  rw[e]
  simp[DataW.atKey,has,ki,Lit.sameKey,Ne.symm h1,Ne.symm h2,Ne.symm h3,Ne.symm h4,Ne.symm h5,Ne.symm h6,Ne.symm h7,Ne.symm h8,Ne.symm h9]
def CMap (w:World) (b n:Nat) (D:DataW Value):Prop:=w.ownsMap Tryz.prog 21 RV b n D
theorem CMap.below{w w':World}{b n:Nat}{D:DataW Value}(h:CMap w b n D)(hB:Below w.heap.size w w'):CMap w' b n D :=
 World.ownsMap.kept (row:=none) h ⟨hB.os,hB.tape,hB.output,hB.size,fun j hj _=>hB.block j hj⟩ (by simp)
theorem CMap.look{w:World}{b n:Nat}{D:DataW Value}(h:CMap w b n D){q:Int}(h0:-2147483648<=q)(h1:q<=2147483647){v:Value}{t:Bool}(hv:D.atKey (ki q) (.held cz) = .held v)(ht:has D (ki q)=t) :
  (Instr.lookup 346 (.map (some b)) (.int .i32 q) true).run Tryz.prog w = .ok (.tuple #[v,.bool t]) w:=by
 obtain⟨v',ps,hr,hv'⟩:=World.ownsMap.look_ok h law32 Tryz.underlying346 (zeroC w) (zd:=.held cz) (zp:=[]) rfl (key32 h0 h1)
 rw[hv]at hv'
 unfold RV at hv'
 simp only[Option.some.injEq,Prod.mk.injEq,DataW.held.injEq]at hv'
 rw[hr,hv'.1,ht]
theorem wpList_insert_own{H:Type}{P:Program}(w:World){ops:Array Oper}{rest:List Oper}{o:Oper}{a:Act}{Q:Exit->Act->World->Prop}
  (hg:o.guard=none) (m x v:Operand) (t:TypeId) (hop:o.op=Op.insert t m x v)
  (k e:TypeId) (K:Keyed P k) (ht:P.underlying t=some (.map k e)) (R:Value->Option (DataW H × List MemPlace)) (b n:Nat) (D:DataW H)
  (hm:a.eval m = .map (some b)) (hown:w.ownsMap P k R b n D) (hn:n<maxLen) (key val:Value) (kl:Lit) (hx:a.eval x=key) (hv:a.eval v=val) (hkey:keyOf P k key=some kl)
  (d:DataW H) (ps:List MemPlace) (hval:R val=some (d,ps))
  (hK:∀ w',w'.ownsMap P k R b (n+1) (D.put kl d)->w.grownBy w' (some b)->wpList P ops Q rest (a.put o.dst undef) w') :
  wpList P ops Q (o::rest) a w:=by
 refine wpList_plain hg fun K' hK' => ?_
 obtain⟨w',hrun,r1,r2⟩:=hown.update K ht hn hkey hval
 unfold Oper.wp
 simp[execOp,hop,hm,hx,hv,hrun,Result.andThen]
 exact hK' _ _ (hK w' r1 r2)
theorem run_mkC(w:World):(Instr.makeMap 346 none).run Tryz.prog w = .ok (.map (some w.heap.size)) (w.alloc (.map #[] 0)):=by kernel_rfl
theorem conditions_any(w:World):Calls Tryz.prog 310 #[] w (fun e w'=>e = .returned (.map (some w.heap.size))/\CMap w' w.heap.size 9 D9/\Below w.heap.size w w'):=by
 have hmm:=run_mkC
 have hown:CMap (w.alloc (.map #[] 0)) w.heap.size 0 (.map []):=World.ownsMap_made _ _ _ _
 have hB:Below w.heap.size w (w.alloc (.map #[] 0)):=upA w _
 go_enter Tryz.func310,Tryz.ntmps310
 go_wp2_with(first|(refine wpList_insert_own _ rfl _ _ _ 346 rfl 21 350 law32 Tryz.underlying346 RV w.heap.size _ _ rfl hown (by unfold maxLen;omega) _ _ _ rfl rfl (key32 (by decide) (by decide)) _ [] rfl ?_;intro w2 hown2 hg2;have hB2:=hB.grown hg2 hB.size (fun j hj=>by cases hj;exact Nat.le_refl _);have hown:CMap w2 w.heap.size _ _:=hown2;have hB:=hB2;clear hown2 hg2 hB2)|fail)
 go_ret
 exact⟨rfl,hown,hB⟩
end Go.Proofs.YtkibdkfdffkkfaaGreatDoor.Ctx
