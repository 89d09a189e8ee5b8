import Derived.Test.YtkibdkfdffkkfaaGreatDoorPk18
import Derived.Test.YtkibdkfdffkkfaaGreatDoorPk19
import Derived.Laws.EntriesVeiled
set_option maxRecDepth 100000
set_option maxHeartbeats 8000000
namespace Go.Proofs.YtkibdkfdffkkfaaGreatDoor
open Go.RowKit Norm Remap
theorem runs_1000{l:List Int}{k:Nat}(h:l.length=k)(hk:k<=4000):Runs 100000 (dec l):=runs_short (by have:=dec_len l;omega)
theorem Is_q(l:List Int)(q:Bool)(A:Option Addr)(k cap:Nat)(w:World)(hk:l.length=k)(hl:k<=4000)(hC:C32 l)(hr:Row w w.heap.size A (cl .i32 l))(h:decide (nfc l=l)=q) :
  Calls Tryz.prog 374 #[.slice A k cap] w (IsB q w):=by
 have hR:=runs_1000 hk hl
 subst hk
 subst h
 exact Is_any 100000 stable_any l A cap w hl hC hr hR
theorem gets{l:List Int}{i:Nat}(h:i<l.length):l[i]? = some l[i]!:=by rw[List.getElem?_eq_getElem h,getElem!_pos l i h]
theorem mems{l:List Int}{i:Nat}(h:i<l.length):l[i]!∈l:=by rw[getElem!_pos l i h];exact List.getElem_mem h
theorem row_cell{w:World}{b o:Nat}{l:List Int}(hc:∀ k,k<(cl .i32 l).length->w.cell? ⟨b,o+k,none⟩=(cl .i32 l)[k]?)(k:Nat)(hk:k<l.length):w.cell? ⟨b,o+k,none⟩=some (.int .i32 l[k]!):=by
 rw[hc k (by simpa using hk),List.getElem?_map,gets hk]
 rfl
def vio (l:List Int):Nat->Bool
 | 0=>decide (l.length=0)
 | 1 => !(decide (nfc l=l))
 | 2=>decide (4<=l.length)&&(decide (l[2]! = 45)&&decide (l[3]! = 45))
 | 3=>decide (l[0]! = 45)||decide (l[l.length-1]! = 45)
 | 4=>decide (46∈l)
 | 5=>decide (Ucd.g (Ucd.of l[0]!) 0=4)
 | _=>l.any fun r => !(vd r)
theorem empty_any(l:List Int)(A:Option Addr)(n c:Nat)(w:World)(hn:l.length=n):Calls Tryz.prog 342 #[.slice A n c] w (IsB (vio l 0) w):=by
 have e:vio l 0=decide (n=0):=by rw[show vio l 0=decide (l.length=0) from rfl,hn]
 rw[e]
 clear e hn
 by_cases h:n=0
 ·subst h
  go_enter Tryz.func342,Tryz.ntmps342
  go_wp2
  go_ret
  exact⟨rfl,Below.refl _ _⟩
 ·have hz:¬ (n:Int)=0:=by omega
  go_enter Tryz.func342,Tryz.ntmps342
  go_wp2
  go_ret
  exact⟨by simp[h],Below.refl _ _⟩
theorem unnorm_any(l:List Int)(A:Option Addr)(n c:Nat)(w:World)(hn:l.length=n)(hl:n<=4000)(hC:C32 l)(hr:Row w w.heap.size A (cl .i32 l)):Calls Tryz.prog 343 #[.slice A n c] w (IsB (vio l 1) w):=by
 obtain⟨q,hq⟩:∃ q,decide (nfc l=l)=q:=⟨_,rfl⟩
 have e:vio l 1 = !q:=by rw[show vio l 1 = !(decide (nfc l=l)) from rfl,hq]
 rw[e]
 have HI:=Lib.hid (Is_q l q A n c w hn hl hC hr hq)
 clear e hn hq hl hC hr
 go_enter Tryz.func343,Tryz.ntmps343
 go_wp2_with(first|(go_at_call 374;refine HI.out.mono ?_;rintro e w1 ⟨rfl,hB1⟩)|fail)
 go_ret
 exact⟨rfl,hB1⟩
theorem inside_any(l:List Int)(A:Option Addr)(n c:Nat)(w:World)(hn:l.length=n)(hr:Row w w.heap.size A (cl .i32 l)):Calls Tryz.prog 344 #[.slice A n c] w (IsB (vio l 2) w):=by
 by_cases h4:4<=n
 ·obtain⟨b,o,rfl,hb,hcc⟩:=hr.at_ (by simp;omega)
  have c2:=row_cell hcc 2 (by omega)
  have c3:=row_cell hcc 3 (by omega)
  obtain⟨x,hx⟩:∃ x,l[2]! = x:=⟨_,rfl⟩
  obtain⟨y,hy⟩:∃ y,l[3]! = y:=⟨_,rfl⟩
  have e:vio l 2=(decide (x=45)&&decide (y=45)):=by rw[show vio l 2=(decide (4<=l.length)&&(decide (l[2]! = 45)&&decide (l[3]! = 45))) from rfl,hn,hx,hy,decide_eq_true h4,Bool.true_and]
  rw[e]
  rw[hx]at c2
  rw[hy]at c3
  have h4z:(4:Int)<=(n:Int):=by omega
  have h2z:(2:Int)<(n:Int):=by omega
  have h3z:(3:Int)<(n:Int):=by omega
  clear hcc hx hy e hn hr h4
  by_cases h2:x=45
  ·by_cases h3:y=45
   ·go_enter Tryz.func344,Tryz.ntmps344
    go_wp2
    go_ret
    exact⟨by simp[h2,h3],Below.refl _ _⟩
   ·go_enter Tryz.func344,Tryz.ntmps344
    go_wp2
    go_ret
    exact⟨by simp[h3],Below.refl _ _⟩
  ·go_enter Tryz.func344,Tryz.ntmps344
   go_wp2
   go_ret
   exact⟨by simp[h2],Below.refl _ _⟩
 ·have e:vio l 2=false:=by rw[show vio l 2=(decide (4<=l.length)&&(decide (l[2]! = 45)&&decide (l[3]! = 45))) from rfl,hn,decide_eq_false h4,Bool.false_and]
  rw[e]
  have h4z:¬ (4:Int)<=(n:Int):=by omega
  clear e hn hr h4
  go_enter Tryz.func344,Tryz.ntmps344
  go_wp2
  go_ret
  exact⟨by simp,Below.refl _ _⟩
theorem edge_any(l:List Int)(A:Option Addr)(n c:Nat)(w:World)(hn:l.length=n)(h0:0<n)(hn1:n<=1000000)(hr:Row w w.heap.size A (cl .i32 l)):Calls Tryz.prog 345 #[.slice A n c] w (IsB (vio l 3) w):=by
 obtain⟨b,o,rfl,hb,hcc⟩:=hr.at_ (by simp;omega)
 have c0:=row_cell hcc 0 (by omega)
 have c1:=row_cell hcc (n-1) (by omega)
 rw[Nat.add_zero]at c0
 obtain⟨x,hx⟩:∃ x,l[0]! = x:=⟨_,rfl⟩
 obtain⟨y,hy⟩:∃ y,l[n-1]! = y:=⟨_,rfl⟩
 have e:vio l 3=(decide (x=45)||decide (y=45)):=by rw[show vio l 3=(decide (l[0]! = 45)||decide (l[l.length-1]! = 45)) from rfl,hn,hx,hy]
 rw[e]
 rw[hx]at c0
 rw[hy]at c1
 obtain⟨p,hp⟩:∃ p,n-1=p:=⟨_,rfl⟩
 rw[hp]at c1
 have hsub:(n:Int)-1=(p:Int):=by omega
 have hwp:IntKind.i64.wrap (p:Int)=(p:Int):=IntWalk.i64_in _ (by omega)
 have b0:(0:Int)<(n:Int):=by omega
 have b1:(p:Int)<(n:Int):=by omega
 have b2:(0:Int)<=(p:Int):=by omega
 clear hcc hx hy e hn hr hp h0
 by_cases h2:x=45
 ·go_enter Tryz.func345,Tryz.ntmps345
  go_wp2
  go_ret
  exact⟨by simp[h2],Below.refl _ _⟩
 ·by_cases h3:y=45
  ·go_enter Tryz.func345,Tryz.ntmps345
   go_wp2
   go_ret
   exact⟨by simp[h3],Below.refl _ _⟩
  ·go_enter Tryz.func345,Tryz.ntmps345
   go_wp2
   go_ret
   exact⟨by simp[h2,h3],Below.refl _ _⟩
theorem mark_any(l:List Int)(A:Option Addr)(n c:Nat)(w:World)(hn:l.length=n)(h0:0<n)(hr:Row w w.heap.size A (cl .i32 l)):Calls Tryz.prog 347 #[.slice A n c] w (IsB (vio l 5) w):=by
 obtain⟨b,o,rfl,hb,hcc⟩:=hr.at_ (by simp;omega)
 have c0:=row_cell hcc 0 (by omega)
 rw[Nat.add_zero]at c0
 rw[show vio l 5=decide (Ucd.g (Ucd.of l[0]!) 0=4) from rfl]
 obtain⟨x,hx⟩:∃ x,l[0]! = x:=⟨_,rfl⟩
 rw[hx]at c0 ⊢
 have HO:=Lib.hid (fun w=>Of_any x w)
 have HRC:∀ (p:List Int) w,(Instr.field 281 (pv p) 0).run Tryz.prog w = .ok (.int .u8 (Ucd.g p 0)) w:=fun p w=>by kernel_rfl
 have HR:=HRC (Ucd.of x)
 generalize Ucd.of x=p at HO HR ⊢
 obtain⟨y,hy⟩:∃ y,Ucd.g p 0=y:=⟨_,rfl⟩
 rw[hy]at HR ⊢
 have b0:(0:Int)<(n:Int):=by omega
 clear hcc hx hy hn hr h0 HRC
 by_cases h:y=4
 ·go_enter Tryz.func347,Tryz.ntmps347
  go_wp2_with(first|(go_at_call 250;refine (HO.out _).mono ?_;rintro e w1 ⟨rfl,hB1⟩)|fail)
  go_ret
  exact⟨by simp[h],hB1⟩
 ·go_enter Tryz.func347,Tryz.ntmps347
  go_wp2_with(first|(go_at_call 250;refine (HO.out _).mono ?_;rintro e w1 ⟨rfl,hB1⟩)|fail)
  go_ret
  exact⟨by simp[h],hB1⟩
def PlaceB (q:Bool) (w:World) (e:Ending) (w':World):Prop:=∃ i:Int,e = .returned (.int .i64 i)/\decide (0<=i)=q/\Below w.heap.size w w'
theorem Index_any(x:Int)(l:List Int)(A:Option Addr)(n c:Nat)(w:World)(hn:l.length=n)(hn1:n<=1000000)(hr:Row w w.heap.size A (cl .i32 l)):Calls Tryz.prog 168 #[.slice A n c,.int .i32 x] w (PlaceB (decide (x∈l)) w):=by
 have HN:=Lib.hid hn
 clear hn
 go_enter Tryz.func168,Tryz.ntmps168
 go_wp2_with fail
 go_loopg [8] n (fun m s8 wr => ∃ k:Nat,s8 = .int .i64 (k:Int)/\m=n-k/\k<=n/\Hid (∀ j,j<k->l[j]!≠x)/\wr=w)
 case atStart=>exact⟨0,rfl,rfl,Nat.zero_le _,Lib.hid (fun j hj=>by omega),rfl⟩
 case round =>
  obtain⟨k,rfl,rfl,hk,HNo,rfl⟩:=hrel
  by_cases hlt:k<n
  ·have hltz:(k:Int)<(n:Int):=by omega
   obtain⟨b,o,rfl,hb,hcc⟩:=hr.at_ (by have:=HN.out;simp;omega)
   have c0:=row_cell hcc k (by rw[HN.out];exact hlt)
   have hm:=mems (l:=l) (i:=k) (by rw[HN.out];exact hlt)
   obtain⟨y,hy⟩:∃ y,l[k]! = y:=⟨_,rfl⟩
   rw[hy]at c0 hm
   have HY:=Lib.hid hy
   have HM:=Lib.hid hm
   clear hcc hy hm
   by_cases h:x=y
   ·subst h
    have HQ:Hid (decide (x∈l)=true):=Lib.hid (decide_eq_true HM.out)
    go_wp2_with fail
    go_ret
    exact⟨k,rfl,by rw[HQ.out];exact decide_eq_true (by omega),Below.refl _ _⟩
   ·have h':¬ y=x:=fun e=>h e.symm
    go_wp2_with fail
    go_roundg (n-(k+1))
    case measure=>omega
    case rel =>
     refine⟨k+1,by go_num,rfl,by omega,Lib.hid (fun j hj => ?_),rfl⟩
     by_cases hjk:j=k
     ·subst hjk;rw[HY.out];exact h'
     ·exact HNo.out j (by omega)
  ·obtain rfl:k=n:=by omega
   have hltz:¬ ((k:Nat):Int)<(k:Int):=by omega
   have HQ:Hid (decide (x∈l)=false):=Lib.hid (decide_eq_false fun h=>by
    obtain⟨j,hj,e⟩:=List.getElem_of_mem h
    refine HNo.out j (by have:=HN.out;omega) ?_
    rw[getElem!_pos l j hj]
    exact e)
   go_wp2_with fail
   go_ret
   exact⟨-1,rfl,by rw[HQ.out];rfl,Below.refl _ _⟩
theorem dotted_any(l:List Int)(A:Option Addr)(n c:Nat)(w:World)(hn:l.length=n)(hn1:n<=1000000)(hr:Row w w.heap.size A (cl .i32 l)):Calls Tryz.prog 346 #[.slice A n c] w (IsB (vio l 4) w):=by
 have HI:=Lib.hid (Index_any 46 l A n c w hn hn1 hr)
 rw[show vio l 4=decide (46∈l) from rfl]
 generalize decide (46∈l)=q at HI ⊢
 have HC:Hid (Calls Tryz.prog 375 #[.slice A n c,.int .i32 46] w (IsB q w)):=by
  refine Lib.hid ?_
  clear hn hr
  go_enter Tryz.func375,Tryz.ntmps375
  go_wp2_with(first|(go_at_call 168;refine HI.out.mono ?_;rintro e w1 ⟨i,rfl,hi,hB1⟩)|fail)
  go_ret
  exact⟨by rw[<-hi];first|rfl|simp,hB1⟩
 clear hn hr HI
 go_enter Tryz.func346,Tryz.ntmps346
 go_wp2_with(first|(go_at_call 375;refine HC.out.mono ?_;rintro e w1 ⟨rfl,hB1⟩)|fail)
 go_ret
 exact⟨rfl,hB1⟩
theorem clo_any(r:Int)(w:World):Calls Tryz.prog 376 #[.int .i32 r] w (Tells (.bool (!(vd r))) w):=by
 have HC:=Lib.hid (fun w=>Code_any r w)
 generalize vd r=q at HC ⊢
 go_enter Tryz.func376,Tryz.ntmps376
 go_wp2_with(first|(go_at_call 377;refine (HC.out _).mono ?_;rintro e w1 ⟨rfl,hB1⟩)|fail)
 go_ret
 exact⟨rfl,hB1⟩
theorem IndexF_any(l:List Int)(A:Option Addr)(n c:Nat)(w:World)(hn:l.length=n)(hn1:n<=1000000)(hr:Row w w.heap.size A (cl .i32 l)):Calls Tryz.prog 126 #[.slice A n c,.func (.func 376) #[] #[]] w (PlaceB (l.any fun r => !(vd r)) w):=by
 have HN:=Lib.hid hn
 clear hn
 go_enter Tryz.func126,Tryz.ntmps126
 go_wp2_with fail
 go_loopg [8] n (fun m s8 wr => ∃ k:Nat,s8 = .int .i64 (k:Int)/\m=n-k/\k<=n/\Hid (∀ j,j<k->vd l[j]! = true)/\Below w.heap.size w wr)
 case atStart=>exact⟨0,rfl,rfl,Nat.zero_le _,Lib.hid (fun j hj=>by omega),Below.refl _ _⟩
 case round =>
  obtain⟨k,rfl,rfl,hk,HNo,hB⟩:=hrel
  by_cases hlt:k<n
  ·have hltz:(k:Int)<(n:Int):=by omega
   obtain⟨b,o,rfl,hb,hcc⟩:=(hr.below hB).at_ (by have:=HN.out;simp;omega)
   have c0:=row_cell hcc k (by rw[HN.out];exact hlt)
   have hm:=mems (l:=l) (i:=k) (by rw[HN.out];exact hlt)
   obtain⟨y,hy⟩:∃ y,l[k]! = y:=⟨_,rfl⟩
   rw[hy]at c0 hm
   have HY:=Lib.hid hy
   have HM:=Lib.hid hm
   have HC:=Lib.hid (fun w=>clo_any y w)
   obtain⟨q,hq⟩:∃ q,vd y=q:=⟨_,rfl⟩
   rw[hq]at HC
   have HV:=Lib.hid hq
   clear hcc hy hm hq
   cases q with
   | false =>
    have HQ:Hid ((l.any fun r => !(vd r))=true):=Lib.hid (List.any_eq_true.2 ⟨y,HM.out,by rw[HV.out];rfl⟩)
    go_wp2_with(first|(go_at_call 376;refine (HC.out _).mono ?_;rintro e w1 ⟨rfl,hB1⟩)|fail)
    go_ret
    exact⟨k,rfl,by rw[HQ.out];exact decide_eq_true (by omega),hB.trans (hB1.mono hB.size)⟩
   | true =>
    go_wp2_with(first|(go_at_call 376;refine (HC.out _).mono ?_;rintro e w1 ⟨rfl,hB1⟩)|fail)
    go_roundg (n-(k+1))
    case measure=>omega
    case rel =>
     refine⟨k+1,by go_num,rfl,by omega,Lib.hid (fun j hj => ?_),hB.trans (hB1.mono hB.size)⟩
     by_cases hjk:j=k
     ·subst hjk;rw[HY.out];exact HV.out
     ·exact HNo.out j (by omega)
  ·obtain rfl:k=n:=by omega
   have hltz:¬ ((k:Nat):Int)<(k:Int):=by omega
   have HQ:Hid ((l.any fun r => !(vd r))=false):=Lib.hid (by
    rw[List.any_eq_false]
    intro r h
    obtain⟨j,hj,e⟩:=List.getElem_of_mem h
    have:=HNo.out j (by have:=HN.out;omega)
    rw[getElem!_pos l j hj,e]at this
    rw[this]
    simp)
   go_wp2_with fail
   go_ret
   exact⟨-1,rfl,by rw[HQ.out];rfl,hB⟩
theorem disallowed_any(l:List Int)(A:Option Addr)(n c:Nat)(w:World)(hn:l.length=n)(hn1:n<=1000000)(hr:Row w w.heap.size A (cl .i32 l)):Calls Tryz.prog 348 #[.slice A n c] w (IsB (vio l 6) w):=by
 have HI:=Lib.hid (IndexF_any l A n c w hn hn1 hr)
 have e:vio l 6=l.any fun r => !(vd r):=rfl
 rw[e]
 generalize (l.any fun r => !(vd r))=q at HI ⊢
 have HC:Hid (Calls Tryz.prog 90 #[.slice A n c,.func (.func 376) #[] #[]] w (IsB q w)):=by
  refine Lib.hid ?_
  clear hn hr
  go_enter Tryz.func90,Tryz.ntmps90
  go_wp2_with(first|(go_at_call 126;refine HI.out.mono ?_;rintro e w1 ⟨i,rfl,hi,hB1⟩)|fail)
  go_ret
  exact⟨by rw[<-hi];first|rfl|simp,hB1⟩
 clear hn hr HI
 go_enter Tryz.func348,Tryz.ntmps348
 go_wp2_with(first|(go_at_call 90;refine HC.out.mono ?_;rintro e w1 ⟨rfl,hB1⟩)|fail)
 go_ret
 exact⟨rfl,hB1⟩
def num:Nat->Int
 | 0=>15
 | 1=>1
 | 2=>2
 | 3=>3
 | 4=>6
 | 5=>4
 | _=>5
def edg (k:Nat):Bool:=decide (k=2)||decide (k=3)
def app (l:List Int) (ed:Bool) (k:Nat):Bool:=(ed || !(edg k))&&vio l k
def chkF (l:List Int) (ed:Bool):Nat->Nat->Int
 | 0,_=>0
 | f+1,k=>if app l ed k=true then num k else chkF l ed f (k+1)
def chk (l:List Int) (ed:Bool):Int:=chkF l ed 7 0
theorem chk_from{l:List Int}{ed:Bool}:∀ k,k<=7->(∀ j,j<k->app l ed j=false)->chk l ed=chkF l ed (7-k) k
 | 0,_,_=>rfl
 | k + 1, hk, h => by
  rw[chk_from k (by omega) (fun j hj=>h j (by omega)),show 7-k=(7-(k+1))+1 from by omega,chkF,if_neg (by rw[h k (by omega)];simp)]
theorem chk_at{l:List Int}{ed:Bool}{k:Nat}(hk:k<7)(h:app l ed k=true)(hn:∀ j,j<k->app l ed j=false):chk l ed=num k:=by
 rw[chk_from k (by omega) hn,show 7-k=(6-k)+1 from by omega,chkF,if_pos h]
theorem chk_none{l:List Int}{ed:Bool}(hn:∀ j,j<7->app l ed j=false):chk l ed=0:=by rw[chk_from 7 (Nat.le_refl _) hn];rfl
theorem up_more{l:List Int}{ed:Bool}{k:Nat}(hn:∀ j,j<k->app l ed j=false)(h:app l ed k=false):∀ j,j<k+1->app l ed j=false:=fun j hj=>by
 by_cases e:j=k
 ·rw[e];exact h
 ·exact hn j (by omega)
theorem pos_of{l:List Int}{ed:Bool}{k:Nat}(hk:0<k)(hn:∀ j,j<k->app l ed j=false):0<l.length:=by
 have h:=hn 0 hk
 have e:app l ed 0=vio l 0:=by unfold app edg;cases ed<;>rfl
 rw[e,show vio l 0=decide (l.length=0) from rfl]at h
 have:=of_decide_eq_false h
 omega
def clC:List Value:=[Value.int .u8 15,Value.bool false,Value.func (.func 342) #[] #[],Value.int .u8 1,Value.bool false,Value.func (.func 343) #[] #[],Value.int .u8 2,Value.bool true,Value.func (.func 344) #[] #[],Value.int .u8 3,Value.bool true,Value.func (.func 345) #[] #[],Value.int .u8 6,Value.bool false,Value.func (.func 346) #[] #[],Value.int .u8 4,Value.bool false,Value.func (.func 347) #[] #[],Value.int .u8 5,Value.bool false,Value.func (.func 348) #[] #[]]
theorem clauses_any(w:World):Calls Tryz.prog 309 #[] w (TabW w 7 clC 345):=by
 go_enter Tryz.func309,Tryz.ntmps309
 go_wp2
 go_ret
 exact⟨rfl,rfl⟩
theorem clause_cell{w W:World}{k:Nat}{v:Value}(hv:clC[k]? = some v)(hB:Below (w.alloc (.cells clC.toArray 345)).heap.size (w.alloc (.cells clC.toArray 345)) W):W.cell? ⟨w.heap.size,k,none⟩=some v:=by
 rw[hB.cell (p:=⟨w.heap.size,k,none⟩) (by simp),tab_cell,hv]
theorem Check_true(l:List Int)(A:Option Addr)(n c:Nat)(w:World)(hn:l.length=n)(hl:n<=4000)(hC:C32 l)(hr:Row w w.heap.size A (cl .i32 l)):Calls Tryz.prog 276 #[.slice A n c,.bool true] w (Tells (.int .u8 (chk l true)) w):=by
 have HN:=Lib.hid hn
 have HC:=Lib.hid hC
 have HT:=Lib.hid (clauses_any w)
 clear hn hC
 go_enter Tryz.func276,Tryz.ntmps276
 go_wp2_with(first|(go_at_call 309;refine HT.out.mono ?_;rintro e w1 ⟨rfl,rfl⟩)|fail)
 go_loopg [9] 7 (fun m s9 wr => ∃ k:Nat,s9 = .int .i64 (k:Int)/\m=7-k/\k<=7/\Hid (∀ j,j<k->app l true j=false)/\Below (w.alloc (.cells clC.toArray 345)).heap.size (w.alloc (.cells clC.toArray 345)) wr)
 case atStart=>exact⟨0,rfl,rfl,Nat.zero_le _,Lib.hid (fun j hj=>by omega),Below.refl _ _⟩
 case round =>
  clear HT
  obtain⟨k,rfl,rfl,hk,HNo,hB⟩:=hrel
  have hk8:k=0∨k=1∨k=2∨k=3∨k=4∨k=5∨k=6∨k=7:=by omega
  rcases hk8 with rfl|rfl|rfl|rfl|rfl|rfl|rfl|rfl
  ·have HAK:Hid (∀ q,vio l 0=q->app l true 0=q):=Lib.hid (fun q h=>by unfold app;rw[h];rfl)
   have c0:=clause_cell (k:=0) (v:=.int .u8 15) rfl hB
   have c1:=clause_cell (k:=1) (v:=.bool false) rfl hB
   have c2:=clause_cell (k:=2) (v:=.func (.func 342) #[] #[]) rfl hB
   go_upto_region 4 with fail
   have hX:=alloc_heap_new' wr (.cells #[.int .u8 15,.bool false,.func (.func 342) #[] #[]] 345)
   have hB1:=hB.alloc hB.size (.cells #[.int .u8 15,.bool false,.func (.func 342) #[] #[]] 345)
   generalize wr.alloc (.cells #[.int .u8 15,.bool false,.func (.func 342) #[] #[]] 345)=W1 at hX hB1 ⊢
   generalize wr.heap.size=X at hX ⊢
   obtain⟨x0,x1,x2,_⟩:=Z3.cells hX
   have HX:=Lib.hid hX
   clear hX hB c0 c1 c2
   have hK:Below w.heap.size w W1:=upB (upA w _) hB1
   have HF:=Lib.hid (empty_any l A n c W1 HN.out)
   clear hK
   obtain⟨v,hv⟩:∃ v,vio l 0=v:=⟨_,rfl⟩
   rw[hv]at HF
   have HV:=Lib.hid hv
   clear hv
   cases v with
   | true =>
    go_upto_region 5 with(first|(go_at_call 342;refine HF.out.mono ?_;rintro e w2 ⟨rfl,hB2⟩)|fail)
    have y0:=(hB2.cell (p:=⟨X,0,none⟩) (Array.getElem?_eq_some_iff.1 HX.out).1).trans x0
    have HCH:Hid (chk l true=15):=Lib.hid (chk_at (k:=0) (by omega) (HAK.out _ HV.out) HNo.out)
    have hB3:=hB1.trans (hB2.mono hB1.size)
    clear x0 x1 x2 hB1 hB2
    go_wp2_with fail
    go_ret
    exact⟨by rw[HCH.out];rfl,upB (upA w _) hB3⟩
   | false =>
    go_upto_region 6 with(first|(go_at_call 342;refine HF.out.mono ?_;rintro e w2 ⟨rfl,hB2⟩)|fail)
    have hB3:=hB1.trans (hB2.mono hB1.size)
    clear x0 x1 x2 hB1 hB2
    go_wp2_with fail
    go_roundg (7-(0+1))
    case measure=>omega
    case rel=>exact⟨1,rfl,rfl,by omega,Lib.hid (up_more HNo.out (HAK.out _ HV.out)),hB3⟩
  ·have HAK:Hid (∀ q,vio l 1=q->app l true 1=q):=Lib.hid (fun q h=>by unfold app;rw[h];rfl)
   have c0:=clause_cell (k:=3) (v:=.int .u8 1) rfl hB
   have c1:=clause_cell (k:=4) (v:=.bool false) rfl hB
   have c2:=clause_cell (k:=5) (v:=.func (.func 343) #[] #[]) rfl hB
   go_upto_region 4 with fail
   have hX:=alloc_heap_new' wr (.cells #[.int .u8 1,.bool false,.func (.func 343) #[] #[]] 345)
   have hB1:=hB.alloc hB.size (.cells #[.int .u8 1,.bool false,.func (.func 343) #[] #[]] 345)
   generalize wr.alloc (.cells #[.int .u8 1,.bool false,.func (.func 343) #[] #[]] 345)=W1 at hX hB1 ⊢
   generalize wr.heap.size=X at hX ⊢
   obtain⟨x0,x1,x2,_⟩:=Z3.cells hX
   have HX:=Lib.hid hX
   clear hX hB c0 c1 c2
   have hK:Below w.heap.size w W1:=upB (upA w _) hB1
   have HF:=Lib.hid (unnorm_any l A n c W1 HN.out hl HC.out (hr.up hK))
   clear hK
   obtain⟨v,hv⟩:∃ v,vio l 1=v:=⟨_,rfl⟩
   rw[hv]at HF
   have HV:=Lib.hid hv
   clear hv
   cases v with
   | true =>
    go_upto_region 5 with(first|(go_at_call 343;refine HF.out.mono ?_;rintro e w2 ⟨rfl,hB2⟩)|fail)
    have y0:=(hB2.cell (p:=⟨X,0,none⟩) (Array.getElem?_eq_some_iff.1 HX.out).1).trans x0
    have HCH:Hid (chk l true=1):=Lib.hid (chk_at (k:=1) (by omega) (HAK.out _ HV.out) HNo.out)
    have hB3:=hB1.trans (hB2.mono hB1.size)
    clear x0 x1 x2 hB1 hB2
    go_wp2_with fail
    go_ret
    exact⟨by rw[HCH.out];rfl,upB (upA w _) hB3⟩
   | false =>
    go_upto_region 6 with(first|(go_at_call 343;refine HF.out.mono ?_;rintro e w2 ⟨rfl,hB2⟩)|fail)
    have hB3:=hB1.trans (hB2.mono hB1.size)
    clear x0 x1 x2 hB1 hB2
    go_wp2_with fail
    go_roundg (7-(1+1))
    case measure=>omega
    case rel=>exact⟨2,rfl,rfl,by omega,Lib.hid (up_more HNo.out (HAK.out _ HV.out)),hB3⟩
  ·have HAK:Hid (∀ q,vio l 2=q->app l true 2=q):=Lib.hid (fun q h=>by unfold app;rw[h];rfl)
   have c0:=clause_cell (k:=6) (v:=.int .u8 2) rfl hB
   have c1:=clause_cell (k:=7) (v:=.bool true) rfl hB
   have c2:=clause_cell (k:=8) (v:=.func (.func 344) #[] #[]) rfl hB
   go_upto_region 4 with fail
   have hX:=alloc_heap_new' wr (.cells #[.int .u8 2,.bool true,.func (.func 344) #[] #[]] 345)
   have hB1:=hB.alloc hB.size (.cells #[.int .u8 2,.bool true,.func (.func 344) #[] #[]] 345)
   generalize wr.alloc (.cells #[.int .u8 2,.bool true,.func (.func 344) #[] #[]] 345)=W1 at hX hB1 ⊢
   generalize wr.heap.size=X at hX ⊢
   obtain⟨x0,x1,x2,_⟩:=Z3.cells hX
   have HX:=Lib.hid hX
   clear hX hB c0 c1 c2
   have hK:Below w.heap.size w W1:=upB (upA w _) hB1
   have HF:=Lib.hid (inside_any l A n c W1 HN.out (hr.up hK))
   clear hK
   obtain⟨v,hv⟩:∃ v,vio l 2=v:=⟨_,rfl⟩
   rw[hv]at HF
   have HV:=Lib.hid hv
   clear hv
   cases v with
   | true =>
    go_upto_region 5 with(first|(go_at_call 344;refine HF.out.mono ?_;rintro e w2 ⟨rfl,hB2⟩)|fail)
    have y0:=(hB2.cell (p:=⟨X,0,none⟩) (Array.getElem?_eq_some_iff.1 HX.out).1).trans x0
    have HCH:Hid (chk l true=2):=Lib.hid (chk_at (k:=2) (by omega) (HAK.out _ HV.out) HNo.out)
    have hB3:=hB1.trans (hB2.mono hB1.size)
    clear x0 x1 x2 hB1 hB2
    go_wp2_with fail
    go_ret
    exact⟨by rw[HCH.out];rfl,upB (upA w _) hB3⟩
   | false =>
    go_upto_region 6 with(first|(go_at_call 344;refine HF.out.mono ?_;rintro e w2 ⟨rfl,hB2⟩)|fail)
    have hB3:=hB1.trans (hB2.mono hB1.size)
    clear x0 x1 x2 hB1 hB2
    go_wp2_with fail
    go_roundg (7-(2+1))
    case measure=>omega
    case rel=>exact⟨3,rfl,rfl,by omega,Lib.hid (up_more HNo.out (HAK.out _ HV.out)),hB3⟩
  ·have HAK:Hid (∀ q,vio l 3=q->app l true 3=q):=Lib.hid (fun q h=>by unfold app;rw[h];rfl)
   have c0:=clause_cell (k:=9) (v:=.int .u8 3) rfl hB
   have c1:=clause_cell (k:=10) (v:=.bool true) rfl hB
   have c2:=clause_cell (k:=11) (v:=.func (.func 345) #[] #[]) rfl hB
   have hn0:0<n:=by have:=pos_of (by omega) HNo.out;rw[HN.out]at this;exact this
   go_upto_region 4 with fail
   have hX:=alloc_heap_new' wr (.cells #[.int .u8 3,.bool true,.func (.func 345) #[] #[]] 345)
   have hB1:=hB.alloc hB.size (.cells #[.int .u8 3,.bool true,.func (.func 345) #[] #[]] 345)
   generalize wr.alloc (.cells #[.int .u8 3,.bool true,.func (.func 345) #[] #[]] 345)=W1 at hX hB1 ⊢
   generalize wr.heap.size=X at hX ⊢
   obtain⟨x0,x1,x2,_⟩:=Z3.cells hX
   have HX:=Lib.hid hX
   clear hX hB c0 c1 c2
   have hK:Below w.heap.size w W1:=upB (upA w _) hB1
   have HF:=Lib.hid (edge_any l A n c W1 HN.out hn0 (by omega) (hr.up hK))
   clear hK
   obtain⟨v,hv⟩:∃ v,vio l 3=v:=⟨_,rfl⟩
   rw[hv]at HF
   have HV:=Lib.hid hv
   clear hv
   cases v with
   | true =>
    go_upto_region 5 with(first|(go_at_call 345;refine HF.out.mono ?_;rintro e w2 ⟨rfl,hB2⟩)|fail)
    have y0:=(hB2.cell (p:=⟨X,0,none⟩) (Array.getElem?_eq_some_iff.1 HX.out).1).trans x0
    have HCH:Hid (chk l true=3):=Lib.hid (chk_at (k:=3) (by omega) (HAK.out _ HV.out) HNo.out)
    have hB3:=hB1.trans (hB2.mono hB1.size)
    clear x0 x1 x2 hB1 hB2
    go_wp2_with fail
    go_ret
    exact⟨by rw[HCH.out];rfl,upB (upA w _) hB3⟩
   | false =>
    go_upto_region 6 with(first|(go_at_call 345;refine HF.out.mono ?_;rintro e w2 ⟨rfl,hB2⟩)|fail)
    have hB3:=hB1.trans (hB2.mono hB1.size)
    clear x0 x1 x2 hB1 hB2
    go_wp2_with fail
    go_roundg (7-(3+1))
    case measure=>omega
    case rel=>exact⟨4,rfl,rfl,by omega,Lib.hid (up_more HNo.out (HAK.out _ HV.out)),hB3⟩
  ·have HAK:Hid (∀ q,vio l 4=q->app l true 4=q):=Lib.hid (fun q h=>by unfold app;rw[h];rfl)
   have c0:=clause_cell (k:=12) (v:=.int .u8 6) rfl hB
   have c1:=clause_cell (k:=13) (v:=.bool false) rfl hB
   have c2:=clause_cell (k:=14) (v:=.func (.func 346) #[] #[]) rfl hB
   go_upto_region 4 with fail
   have hX:=alloc_heap_new' wr (.cells #[.int .u8 6,.bool false,.func (.func 346) #[] #[]] 345)
   have hB1:=hB.alloc hB.size (.cells #[.int .u8 6,.bool false,.func (.func 346) #[] #[]] 345)
   generalize wr.alloc (.cells #[.int .u8 6,.bool false,.func (.func 346) #[] #[]] 345)=W1 at hX hB1 ⊢
   generalize wr.heap.size=X at hX ⊢
   obtain⟨x0,x1,x2,_⟩:=Z3.cells hX
   have HX:=Lib.hid hX
   clear hX hB c0 c1 c2
   have hK:Below w.heap.size w W1:=upB (upA w _) hB1
   have HF:=Lib.hid (dotted_any l A n c W1 HN.out (by omega) (hr.up hK))
   clear hK
   obtain⟨v,hv⟩:∃ v,vio l 4=v:=⟨_,rfl⟩
   rw[hv]at HF
   have HV:=Lib.hid hv
   clear hv
   cases v with
   | true =>
    go_upto_region 5 with(first|(go_at_call 346;refine HF.out.mono ?_;rintro e w2 ⟨rfl,hB2⟩)|fail)
    have y0:=(hB2.cell (p:=⟨X,0,none⟩) (Array.getElem?_eq_some_iff.1 HX.out).1).trans x0
    have HCH:Hid (chk l true=6):=Lib.hid (chk_at (k:=4) (by omega) (HAK.out _ HV.out) HNo.out)
    have hB3:=hB1.trans (hB2.mono hB1.size)
    clear x0 x1 x2 hB1 hB2
    go_wp2_with fail
    go_ret
    exact⟨by rw[HCH.out];rfl,upB (upA w _) hB3⟩
   | false =>
    go_upto_region 6 with(first|(go_at_call 346;refine HF.out.mono ?_;rintro e w2 ⟨rfl,hB2⟩)|fail)
    have hB3:=hB1.trans (hB2.mono hB1.size)
    clear x0 x1 x2 hB1 hB2
    go_wp2_with fail
    go_roundg (7-(4+1))
    case measure=>omega
    case rel=>exact⟨5,rfl,rfl,by omega,Lib.hid (up_more HNo.out (HAK.out _ HV.out)),hB3⟩
  ·have HAK:Hid (∀ q,vio l 5=q->app l true 5=q):=Lib.hid (fun q h=>by unfold app;rw[h];rfl)
   have c0:=clause_cell (k:=15) (v:=.int .u8 4) rfl hB
   have c1:=clause_cell (k:=16) (v:=.bool false) rfl hB
   have c2:=clause_cell (k:=17) (v:=.func (.func 347) #[] #[]) rfl hB
   have hn0:0<n:=by have:=pos_of (by omega) HNo.out;rw[HN.out]at this;exact this
   go_upto_region 4 with fail
   have hX:=alloc_heap_new' wr (.cells #[.int .u8 4,.bool false,.func (.func 347) #[] #[]] 345)
   have hB1:=hB.alloc hB.size (.cells #[.int .u8 4,.bool false,.func (.func 347) #[] #[]] 345)
   generalize wr.alloc (.cells #[.int .u8 4,.bool false,.func (.func 347) #[] #[]] 345)=W1 at hX hB1 ⊢
   generalize wr.heap.size=X at hX ⊢
   obtain⟨x0,x1,x2,_⟩:=Z3.cells hX
   have HX:=Lib.hid hX
   clear hX hB c0 c1 c2
   have hK:Below w.heap.size w W1:=upB (upA w _) hB1
   have HF:=Lib.hid (mark_any l A n c W1 HN.out hn0 (hr.up hK))
   clear hK
   obtain⟨v,hv⟩:∃ v,vio l 5=v:=⟨_,rfl⟩
   rw[hv]at HF
   have HV:=Lib.hid hv
   clear hv
   cases v with
   | true =>
    go_upto_region 5 with(first|(go_at_call 347;refine HF.out.mono ?_;rintro e w2 ⟨rfl,hB2⟩)|fail)
    have y0:=(hB2.cell (p:=⟨X,0,none⟩) (Array.getElem?_eq_some_iff.1 HX.out).1).trans x0
    have HCH:Hid (chk l true=4):=Lib.hid (chk_at (k:=5) (by omega) (HAK.out _ HV.out) HNo.out)
    have hB3:=hB1.trans (hB2.mono hB1.size)
    clear x0 x1 x2 hB1 hB2
    go_wp2_with fail
    go_ret
    exact⟨by rw[HCH.out];rfl,upB (upA w _) hB3⟩
   | false =>
    go_upto_region 6 with(first|(go_at_call 347;refine HF.out.mono ?_;rintro e w2 ⟨rfl,hB2⟩)|fail)
    have hB3:=hB1.trans (hB2.mono hB1.size)
    clear x0 x1 x2 hB1 hB2
    go_wp2_with fail
    go_roundg (7-(5+1))
    case measure=>omega
    case rel=>exact⟨6,rfl,rfl,by omega,Lib.hid (up_more HNo.out (HAK.out _ HV.out)),hB3⟩
  ·have HAK:Hid (∀ q,vio l 6=q->app l true 6=q):=Lib.hid (fun q h=>by unfold app;rw[h];rfl)
   have c0:=clause_cell (k:=18) (v:=.int .u8 5) rfl hB
   have c1:=clause_cell (k:=19) (v:=.bool false) rfl hB
   have c2:=clause_cell (k:=20) (v:=.func (.func 348) #[] #[]) rfl hB
   go_upto_region 4 with fail
   have hX:=alloc_heap_new' wr (.cells #[.int .u8 5,.bool false,.func (.func 348) #[] #[]] 345)
   have hB1:=hB.alloc hB.size (.cells #[.int .u8 5,.bool false,.func (.func 348) #[] #[]] 345)
   generalize wr.alloc (.cells #[.int .u8 5,.bool false,.func (.func 348) #[] #[]] 345)=W1 at hX hB1 ⊢
   generalize wr.heap.size=X at hX ⊢
   obtain⟨x0,x1,x2,_⟩:=Z3.cells hX
   have HX:=Lib.hid hX
   clear hX hB c0 c1 c2
   have hK:Below w.heap.size w W1:=upB (upA w _) hB1
   have HF:=Lib.hid (disallowed_any l A n c W1 HN.out (by omega) (hr.up hK))
   clear hK
   obtain⟨v,hv⟩:∃ v,vio l 6=v:=⟨_,rfl⟩
   rw[hv]at HF
   have HV:=Lib.hid hv
   clear hv
   cases v with
   | true =>
    go_upto_region 5 with(first|(go_at_call 348;refine HF.out.mono ?_;rintro e w2 ⟨rfl,hB2⟩)|fail)
    have y0:=(hB2.cell (p:=⟨X,0,none⟩) (Array.getElem?_eq_some_iff.1 HX.out).1).trans x0
    have HCH:Hid (chk l true=5):=Lib.hid (chk_at (k:=6) (by omega) (HAK.out _ HV.out) HNo.out)
    have hB3:=hB1.trans (hB2.mono hB1.size)
    clear x0 x1 x2 hB1 hB2
    go_wp2_with fail
    go_ret
    exact⟨by rw[HCH.out];rfl,upB (upA w _) hB3⟩
   | false =>
    go_upto_region 6 with(first|(go_at_call 348;refine HF.out.mono ?_;rintro e w2 ⟨rfl,hB2⟩)|fail)
    have hB3:=hB1.trans (hB2.mono hB1.size)
    clear x0 x1 x2 hB1 hB2
    go_wp2_with fail
    go_roundg (7-(6+1))
    case measure=>omega
    case rel=>exact⟨7,rfl,rfl,by omega,Lib.hid (up_more HNo.out (HAK.out _ HV.out)),hB3⟩
  ·have HCH:Hid (chk l true=0):=Lib.hid (chk_none HNo.out)
   go_wp2_with fail
   go_ret
   exact⟨by rw[HCH.out];rfl,upB (upA w _) hB⟩
theorem Check_false(l:List Int)(A:Option Addr)(n c:Nat)(w:World)(hn:l.length=n)(hl:n<=4000)(hC:C32 l)(hr:Row w w.heap.size A (cl .i32 l)):Calls Tryz.prog 276 #[.slice A n c,.bool false] w (Tells (.int .u8 (chk l false)) w):=by
 have HN:=Lib.hid hn
 have HC:=Lib.hid hC
 have HT:=Lib.hid (clauses_any w)
 clear hn hC
 go_enter Tryz.func276,Tryz.ntmps276
 go_wp2_with(first|(go_at_call 309;refine HT.out.mono ?_;rintro e w1 ⟨rfl,rfl⟩)|fail)
 go_loopg [9] 7 (fun m s9 wr => ∃ k:Nat,s9 = .int .i64 (k:Int)/\m=7-k/\k<=7/\Hid (∀ j,j<k->app l false j=false)/\Below (w.alloc (.cells clC.toArray 345)).heap.size (w.alloc (.cells clC.toArray 345)) wr)
 case atStart=>exact⟨0,rfl,rfl,Nat.zero_le _,Lib.hid (fun j hj=>by omega),Below.refl _ _⟩
 case round =>
  clear HT
  obtain⟨k,rfl,rfl,hk,HNo,hB⟩:=hrel
  have hk8:k=0∨k=1∨k=2∨k=3∨k=4∨k=5∨k=6∨k=7:=by omega
  rcases hk8 with rfl|rfl|rfl|rfl|rfl|rfl|rfl|rfl
  ·have HAK:Hid (∀ q,vio l 0=q->app l false 0=q):=Lib.hid (fun q h=>by unfold app;rw[h];rfl)
   have c0:=clause_cell (k:=0) (v:=.int .u8 15) rfl hB
   have c1:=clause_cell (k:=1) (v:=.bool false) rfl hB
   have c2:=clause_cell (k:=2) (v:=.func (.func 342) #[] #[]) rfl hB
   go_upto_region 4 with fail
   have hX:=alloc_heap_new' wr (.cells #[.int .u8 15,.bool false,.func (.func 342) #[] #[]] 345)
   have hB1:=hB.alloc hB.size (.cells #[.int .u8 15,.bool false,.func (.func 342) #[] #[]] 345)
   generalize wr.alloc (.cells #[.int .u8 15,.bool false,.func (.func 342) #[] #[]] 345)=W1 at hX hB1 ⊢
   generalize wr.heap.size=X at hX ⊢
   obtain⟨x0,x1,x2,_⟩:=Z3.cells hX
   have HX:=Lib.hid hX
   clear hX hB c0 c1 c2
   have hK:Below w.heap.size w W1:=upB (upA w _) hB1
   have HF:=Lib.hid (empty_any l A n c W1 HN.out)
   clear hK
   obtain⟨v,hv⟩:∃ v,vio l 0=v:=⟨_,rfl⟩
   rw[hv]at HF
   have HV:=Lib.hid hv
   clear hv
   cases v with
   | true =>
    go_upto_region 5 with(first|(go_at_call 342;refine HF.out.mono ?_;rintro e w2 ⟨rfl,hB2⟩)|fail)
    have y0:=(hB2.cell (p:=⟨X,0,none⟩) (Array.getElem?_eq_some_iff.1 HX.out).1).trans x0
    have HCH:Hid (chk l false=15):=Lib.hid (chk_at (k:=0) (by omega) (HAK.out _ HV.out) HNo.out)
    have hB3:=hB1.trans (hB2.mono hB1.size)
    clear x0 x1 x2 hB1 hB2
    go_wp2_with fail
    go_ret
    exact⟨by rw[HCH.out];rfl,upB (upA w _) hB3⟩
   | false =>
    go_upto_region 6 with(first|(go_at_call 342;refine HF.out.mono ?_;rintro e w2 ⟨rfl,hB2⟩)|fail)
    have hB3:=hB1.trans (hB2.mono hB1.size)
    clear x0 x1 x2 hB1 hB2
    go_wp2_with fail
    go_roundg (7-(0+1))
    case measure=>omega
    case rel=>exact⟨1,rfl,rfl,by omega,Lib.hid (up_more HNo.out (HAK.out _ HV.out)),hB3⟩
  ·have HAK:Hid (∀ q,vio l 1=q->app l false 1=q):=Lib.hid (fun q h=>by unfold app;rw[h];rfl)
   have c0:=clause_cell (k:=3) (v:=.int .u8 1) rfl hB
   have c1:=clause_cell (k:=4) (v:=.bool false) rfl hB
   have c2:=clause_cell (k:=5) (v:=.func (.func 343) #[] #[]) rfl hB
   go_upto_region 4 with fail
   have hX:=alloc_heap_new' wr (.cells #[.int .u8 1,.bool false,.func (.func 343) #[] #[]] 345)
   have hB1:=hB.alloc hB.size (.cells #[.int .u8 1,.bool false,.func (.func 343) #[] #[]] 345)
   generalize wr.alloc (.cells #[.int .u8 1,.bool false,.func (.func 343) #[] #[]] 345)=W1 at hX hB1 ⊢
   generalize wr.heap.size=X at hX ⊢
   obtain⟨x0,x1,x2,_⟩:=Z3.cells hX
   have HX:=Lib.hid hX
   clear hX hB c0 c1 c2
   have hK:Below w.heap.size w W1:=upB (upA w _) hB1
   have HF:=Lib.hid (unnorm_any l A n c W1 HN.out hl HC.out (hr.up hK))
   clear hK
   obtain⟨v,hv⟩:∃ v,vio l 1=v:=⟨_,rfl⟩
   rw[hv]at HF
   have HV:=Lib.hid hv
   clear hv
   cases v with
   | true =>
    go_upto_region 5 with(first|(go_at_call 343;refine HF.out.mono ?_;rintro e w2 ⟨rfl,hB2⟩)|fail)
    have y0:=(hB2.cell (p:=⟨X,0,none⟩) (Array.getElem?_eq_some_iff.1 HX.out).1).trans x0
    have HCH:Hid (chk l false=1):=Lib.hid (chk_at (k:=1) (by omega) (HAK.out _ HV.out) HNo.out)
    have hB3:=hB1.trans (hB2.mono hB1.size)
    clear x0 x1 x2 hB1 hB2
    go_wp2_with fail
    go_ret
    exact⟨by rw[HCH.out];rfl,upB (upA w _) hB3⟩
   | false =>
    go_upto_region 6 with(first|(go_at_call 343;refine HF.out.mono ?_;rintro e w2 ⟨rfl,hB2⟩)|fail)
    have hB3:=hB1.trans (hB2.mono hB1.size)
    clear x0 x1 x2 hB1 hB2
    go_wp2_with fail
    go_roundg (7-(1+1))
    case measure=>omega
    case rel=>exact⟨2,rfl,rfl,by omega,Lib.hid (up_more HNo.out (HAK.out _ HV.out)),hB3⟩
  ·have HAK:Hid (∀ q,vio l 2=q->app l false 2=false):=Lib.hid (fun q h=>by unfold app;rw[h];rfl)
   have c0:=clause_cell (k:=6) (v:=.int .u8 2) rfl hB
   have c1:=clause_cell (k:=7) (v:=.bool true) rfl hB
   have c2:=clause_cell (k:=8) (v:=.func (.func 344) #[] #[]) rfl hB
   go_upto_region 4 with fail
   have hX:=alloc_heap_new' wr (.cells #[.int .u8 2,.bool true,.func (.func 344) #[] #[]] 345)
   have hB1:=hB.alloc hB.size (.cells #[.int .u8 2,.bool true,.func (.func 344) #[] #[]] 345)
   generalize wr.alloc (.cells #[.int .u8 2,.bool true,.func (.func 344) #[] #[]] 345)=W1 at hX hB1 ⊢
   generalize wr.heap.size=X at hX ⊢
   obtain⟨x0,x1,x2,_⟩:=Z3.cells hX
   have HX:=Lib.hid hX
   clear hX hB c0 c1 c2
   go_wp2_with fail
   go_roundg (7-(2+1))
   case measure=>omega
   case rel=>exact⟨3,rfl,rfl,by omega,Lib.hid (up_more HNo.out (HAK.out _ rfl)),hB1⟩
  ·have HAK:Hid (∀ q,vio l 3=q->app l false 3=false):=Lib.hid (fun q h=>by unfold app;rw[h];rfl)
   have c0:=clause_cell (k:=9) (v:=.int .u8 3) rfl hB
   have c1:=clause_cell (k:=10) (v:=.bool true) rfl hB
   have c2:=clause_cell (k:=11) (v:=.func (.func 345) #[] #[]) rfl hB
   have hn0:0<n:=by have:=pos_of (by omega) HNo.out;rw[HN.out]at this;exact this
   go_upto_region 4 with fail
   have hX:=alloc_heap_new' wr (.cells #[.int .u8 3,.bool true,.func (.func 345) #[] #[]] 345)
   have hB1:=hB.alloc hB.size (.cells #[.int .u8 3,.bool true,.func (.func 345) #[] #[]] 345)
   generalize wr.alloc (.cells #[.int .u8 3,.bool true,.func (.func 345) #[] #[]] 345)=W1 at hX hB1 ⊢
   generalize wr.heap.size=X at hX ⊢
   obtain⟨x0,x1,x2,_⟩:=Z3.cells hX
   have HX:=Lib.hid hX
   clear hX hB c0 c1 c2
   go_wp2_with fail
   go_roundg (7-(3+1))
   case measure=>omega
   case rel=>exact⟨4,rfl,rfl,by omega,Lib.hid (up_more HNo.out (HAK.out _ rfl)),hB1⟩
  ·have HAK:Hid (∀ q,vio l 4=q->app l false 4=q):=Lib.hid (fun q h=>by unfold app;rw[h];rfl)
   have c0:=clause_cell (k:=12) (v:=.int .u8 6) rfl hB
   have c1:=clause_cell (k:=13) (v:=.bool false) rfl hB
   have c2:=clause_cell (k:=14) (v:=.func (.func 346) #[] #[]) rfl hB
   go_upto_region 4 with fail
   have hX:=alloc_heap_new' wr (.cells #[.int .u8 6,.bool false,.func (.func 346) #[] #[]] 345)
   have hB1:=hB.alloc hB.size (.cells #[.int .u8 6,.bool false,.func (.func 346) #[] #[]] 345)
   generalize wr.alloc (.cells #[.int .u8 6,.bool false,.func (.func 346) #[] #[]] 345)=W1 at hX hB1 ⊢
   generalize wr.heap.size=X at hX ⊢
   obtain⟨x0,x1,x2,_⟩:=Z3.cells hX
   have HX:=Lib.hid hX
   clear hX hB c0 c1 c2
   have hK:Below w.heap.size w W1:=upB (upA w _) hB1
   have HF:=Lib.hid (dotted_any l A n c W1 HN.out (by omega) (hr.up hK))
   clear hK
   obtain⟨v,hv⟩:∃ v,vio l 4=v:=⟨_,rfl⟩
   rw[hv]at HF
   have HV:=Lib.hid hv
   clear hv
   cases v with
   | true =>
    go_upto_region 5 with(first|(go_at_call 346;refine HF.out.mono ?_;rintro e w2 ⟨rfl,hB2⟩)|fail)
    have y0:=(hB2.cell (p:=⟨X,0,none⟩) (Array.getElem?_eq_some_iff.1 HX.out).1).trans x0
    have HCH:Hid (chk l false=6):=Lib.hid (chk_at (k:=4) (by omega) (HAK.out _ HV.out) HNo.out)
    have hB3:=hB1.trans (hB2.mono hB1.size)
    clear x0 x1 x2 hB1 hB2
    go_wp2_with fail
    go_ret
    exact⟨by rw[HCH.out];rfl,upB (upA w _) hB3⟩
   | false =>
    go_upto_region 6 with(first|(go_at_call 346;refine HF.out.mono ?_;rintro e w2 ⟨rfl,hB2⟩)|fail)
    have hB3:=hB1.trans (hB2.mono hB1.size)
    clear x0 x1 x2 hB1 hB2
    go_wp2_with fail
    go_roundg (7-(4+1))
    case measure=>omega
    case rel=>exact⟨5,rfl,rfl,by omega,Lib.hid (up_more HNo.out (HAK.out _ HV.out)),hB3⟩
  ·have HAK:Hid (∀ q,vio l 5=q->app l false 5=q):=Lib.hid (fun q h=>by unfold app;rw[h];rfl)
   have c0:=clause_cell (k:=15) (v:=.int .u8 4) rfl hB
   have c1:=clause_cell (k:=16) (v:=.bool false) rfl hB
   have c2:=clause_cell (k:=17) (v:=.func (.func 347) #[] #[]) rfl hB
   have hn0:0<n:=by have:=pos_of (by omega) HNo.out;rw[HN.out]at this;exact this
   go_upto_region 4 with fail
   have hX:=alloc_heap_new' wr (.cells #[.int .u8 4,.bool false,.func (.func 347) #[] #[]] 345)
   have hB1:=hB.alloc hB.size (.cells #[.int .u8 4,.bool false,.func (.func 347) #[] #[]] 345)
   generalize wr.alloc (.cells #[.int .u8 4,.bool false,.func (.func 347) #[] #[]] 345)=W1 at hX hB1 ⊢
   generalize wr.heap.size=X at hX ⊢
   obtain⟨x0,x1,x2,_⟩:=Z3.cells hX
   have HX:=Lib.hid hX
   clear hX hB c0 c1 c2
   have hK:Below w.heap.size w W1:=upB (upA w _) hB1
   have HF:=Lib.hid (mark_any l A n c W1 HN.out hn0 (hr.up hK))
   clear hK
   obtain⟨v,hv⟩:∃ v,vio l 5=v:=⟨_,rfl⟩
   rw[hv]at HF
   have HV:=Lib.hid hv
   clear hv
   cases v with
   | true =>
    go_upto_region 5 with(first|(go_at_call 347;refine HF.out.mono ?_;rintro e w2 ⟨rfl,hB2⟩)|fail)
    have y0:=(hB2.cell (p:=⟨X,0,none⟩) (Array.getElem?_eq_some_iff.1 HX.out).1).trans x0
    have HCH:Hid (chk l false=4):=Lib.hid (chk_at (k:=5) (by omega) (HAK.out _ HV.out) HNo.out)
    have hB3:=hB1.trans (hB2.mono hB1.size)
    clear x0 x1 x2 hB1 hB2
    go_wp2_with fail
    go_ret
    exact⟨by rw[HCH.out];rfl,upB (upA w _) hB3⟩
   | false =>
    go_upto_region 6 with(first|(go_at_call 347;refine HF.out.mono ?_;rintro e w2 ⟨rfl,hB2⟩)|fail)
    have hB3:=hB1.trans (hB2.mono hB1.size)
    clear x0 x1 x2 hB1 hB2
    go_wp2_with fail
    go_roundg (7-(5+1))
    case measure=>omega
    case rel=>exact⟨6,rfl,rfl,by omega,Lib.hid (up_more HNo.out (HAK.out _ HV.out)),hB3⟩
  ·have HAK:Hid (∀ q,vio l 6=q->app l false 6=q):=Lib.hid (fun q h=>by unfold app;rw[h];rfl)
   have c0:=clause_cell (k:=18) (v:=.int .u8 5) rfl hB
   have c1:=clause_cell (k:=19) (v:=.bool false) rfl hB
   have c2:=clause_cell (k:=20) (v:=.func (.func 348) #[] #[]) rfl hB
   go_upto_region 4 with fail
   have hX:=alloc_heap_new' wr (.cells #[.int .u8 5,.bool false,.func (.func 348) #[] #[]] 345)
   have hB1:=hB.alloc hB.size (.cells #[.int .u8 5,.bool false,.func (.func 348) #[] #[]] 345)
   generalize wr.alloc (.cells #[.int .u8 5,.bool false,.func (.func 348) #[] #[]] 345)=W1 at hX hB1 ⊢
   generalize wr.heap.size=X at hX ⊢
   obtain⟨x0,x1,x2,_⟩:=Z3.cells hX
   have HX:=Lib.hid hX
   clear hX hB c0 c1 c2
   have hK:Below w.heap.size w W1:=upB (upA w _) hB1
   have HF:=Lib.hid (disallowed_any l A n c W1 HN.out (by omega) (hr.up hK))
   clear hK
   obtain⟨v,hv⟩:∃ v,vio l 6=v:=⟨_,rfl⟩
   rw[hv]at HF
   have HV:=Lib.hid hv
   clear hv
   cases v with
   | true =>
    go_upto_region 5 with(first|(go_at_call 348;refine HF.out.mono ?_;rintro e w2 ⟨rfl,hB2⟩)|fail)
    have y0:=(hB2.cell (p:=⟨X,0,none⟩) (Array.getElem?_eq_some_iff.1 HX.out).1).trans x0
    have HCH:Hid (chk l false=5):=Lib.hid (chk_at (k:=6) (by omega) (HAK.out _ HV.out) HNo.out)
    have hB3:=hB1.trans (hB2.mono hB1.size)
    clear x0 x1 x2 hB1 hB2
    go_wp2_with fail
    go_ret
    exact⟨by rw[HCH.out];rfl,upB (upA w _) hB3⟩
   | false =>
    go_upto_region 6 with(first|(go_at_call 348;refine HF.out.mono ?_;rintro e w2 ⟨rfl,hB2⟩)|fail)
    have hB3:=hB1.trans (hB2.mono hB1.size)
    clear x0 x1 x2 hB1 hB2
    go_wp2_with fail
    go_roundg (7-(6+1))
    case measure=>omega
    case rel=>exact⟨7,rfl,rfl,by omega,Lib.hid (up_more HNo.out (HAK.out _ HV.out)),hB3⟩
  ·have HCH:Hid (chk l false=0):=Lib.hid (chk_none HNo.out)
   go_wp2_with fail
   go_ret
   exact⟨by rw[HCH.out];rfl,upB (upA w _) hB⟩
theorem Check_any(l:List Int)(ed:Bool)(A:Option Addr)(n c:Nat)(w:World)(hn:l.length=n)(hl:n<=4000)(hC:C32 l)(hr:Row w w.heap.size A (cl .i32 l)):Calls Tryz.prog 276 #[.slice A n c,.bool ed] w (Tells (.int .u8 (chk l ed)) w):=by
 cases ed
 ·exact Check_false l A n c w hn hl hC hr
 ·exact Check_true l A n c w hn hl hC hr
def m1 (r:Int):List Int:=if (one r).2=3 then [r] else (one r).1
def mapL (l:List Int):List Int:=l.flatMap m1
theorem m1_cases(r:Int):m1 r=[r]∨m1 r=[]∨m1 r=[46,46,46]∨∃ s∈shL,inS r s=true/\m1 r=[r-s.1+s.2.2]:=by
 cases hm:mp r with
 | some l =>
  have e:m1 r=l:=by unfold m1 one;rw[hm];rfl
  unfold mp at hm
  by_cases h8:r=8230
  ·rw[if_pos h8]at hm
   injection hm with hm
   exact .inr (.inr (.inl (e.trans hm.symm)))
  ·rw[if_neg h8,Option.map_eq_some_iff]at hm
   obtain⟨s,hs,hl⟩:=hm
   exact .inr (.inr (.inr ⟨s,List.mem_of_find?_eq_some hs,List.find?_some hs,e.trans hl.symm⟩))
 | none =>
  have e:one r=if igL.any (inP r) then ([],2) else if vl r then ([r],0) else ([],3):=by unfold one;rw[hm]
  unfold m1
  rw[e]
  cases igL.any (inP r)
  ·cases vl r
   ·exact .inl rfl
   ·exact .inl rfl
  ·exact .inr (.inl rfl)
theorem m1_len(r:Int):(m1 r).length<=3:=by
 rcases m1_cases r with h|h|h|⟨s,_,_,h⟩<;>rw[h]<;>simp
theorem mapL_len(l:List Int):(mapL l).length<=l.length*3:=by
 induction l with
 | nil=>simp[mapL]
 | cons x t ih=>have e:mapL (x::t)=m1 x++mapL t:=rfl;rw[e,List.length_append,List.length_cons];have:=m1_len x;omega
theorem mapL_take{l:List Int}{k:Nat}(hk:k<l.length):mapL (l.take (k+1))=mapL (l.take k)++m1 l[k]:=by
 unfold mapL
 rw[List.take_add_one,List.getElem?_eq_getElem hk,List.flatMap_append]
 simp
end Go.Proofs.YtkibdkfdffkkfaaGreatDoor
