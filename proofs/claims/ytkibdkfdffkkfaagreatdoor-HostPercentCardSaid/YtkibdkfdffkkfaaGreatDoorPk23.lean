import Derived.Test.YtkibdkfdffkkfaaGreatDoorPk22
import Derived.Deep.DrawnRows
import Derived.Deep.DeepCutAuto
import Derived.Test.YtkibdkfdffkkfaaGreatDoorPk08
set_option maxRecDepth 100000
set_option maxHeartbeats 8000000
namespace Go.Proofs.YtkibdkfdffkkfaaGreatDoor.Ctx
open Go.RowKit Go.Maps Ucd
attribute [local go_sem ↓] Go.wp_at_zero Go.wp_at_succ
theorem kyv_in{r:Int}(h0:-2147483648<=r)(h1:r<=2147483647):-2147483648<=kyv r/\kyv r<=2147483647:=by
 unfold kyv
 split
 ·omega
 ·split<;>omega
def fid:Nat->FuncId
 | 0=>349
 | 1=>350
 | 2=>351
 | 3=>352
 | 4=>353
 | 5=>354
 | 6=>355
 | _=>356
theorem fnC_fid:∀ k,fnC k = .func (.func (fid k)) #[] #[]
 | 0|1|2|3|4|5|6|_+7=>rfl
theorem enterC:∀ (k:Nat) (args:Array Value) (w:World),(callFunc (fid k) args).run Tryz.prog w = .ok (.enter (fid k) args) w
 | 0,_,_|1,_,_|2,_,_|3,_,_|4,_,_|5,_,_|6,_,_|_+7,_,_=>by kernel_rfl
theorem holds_any(l:List Int)(i k:Nat)(A:Option Addr)(n c:Nat)(w:World)(hn:l.length=n)(hi:i<n)(hn1:n<=1000000)(hk:k<8)(hr:Row w w.heap.size A (cl .i32 l)):Calls Tryz.prog (fid k) #[.slice A n c,.int .i64 (i:Int)] w (IsB (ok l i k) w):=by
 match k,hk with
 | 0,_=>exact between_any l i A n c w hn hi hn1 hr
 | 1,_=>exact before_any l i A n c w hn hi hn1 hr
 | 2,_=>exact hebrew_any l i A n c w hn hi hn1 hr
 | 3,_=>exact parts_any l i A n c w hn hi hn1 hr
 | 4,_=>exact virama_any l i A n c w hn hi hn1 hr
 | 5,_=>exact withJapanese_any l i A n c w hn hn1 hr
 | 6,_=>exact withoutEast_any l i A n c w hn hn1 hr
 | 7,_=>exact withoutArabic_any l i A n c w hn hn1 hr
theorem alloc_new(w:World)(o:Obj):(w.alloc o).heap[w.heap.size]? = some o:=by
 show (w.heap.push o)[w.heap.size]? = _
 simp
theorem CMap.alloc{w:World}{b n:Nat}{D:DataW Value}(h:CMap w b n D)(o:Obj):CMap (w.alloc o) b n D:=h.below (upA w o)
theorem cells3{w:World}{X:Nat}{a b c:Value}{t:TypeId}(h:w.heap[X]? = some (.cells #[a,b,c] t (0,0))) :
  w.cell? ⟨X,0,none⟩=some a/\w.cell? ⟨X,1,none⟩=some b/\w.cell? ⟨X,2,none⟩=some c/\w.frozen? ⟨X,0,none⟩=false/\w.frozen? ⟨X,1,none⟩=false/\w.frozen? ⟨X,2,none⟩=false:=by
 simp[World.cell?,World.frozen?,h]
attribute [local go_sem ↓] Go.wp_at_zero Go.wp_at_succ
def chkF (l:List Int):Nat->Nat->Int
 | 0,_=>0
 | f+1,k=>if atC l k=0 then chkF l f (k+1) else atC l k
def chkC (l:List Int):Int:=chkF l l.length 0
theorem chk_from{l:List Int}:∀ k,k<=l.length->(∀ j,j<k->atC l j=0)->chkC l=chkF l (l.length-k) k
 | 0,_,_=>rfl
 | k + 1, hk, h => by
  rw[chk_from k (by omega) (fun j hj=>h j (by omega)),show l.length-k=(l.length-(k+1))+1 from by omega,chkF,if_pos (h k (by omega))]
theorem chk_at{l:List Int}{k:Nat}(hk:k<l.length)(h:atC l k≠0)(hn:∀ j,j<k->atC l j=0):chkC l=atC l k:=by
 rw[chk_from k (by omega) hn,show l.length-k=(l.length-(k+1))+1 from by omega,chkF,if_neg h]
theorem chk_none{l:List Int}(hn:∀ j,j<l.length->atC l j=0):chkC l=0:=by
 rw[chk_from l.length (Nat.le_refl _) hn,Nat.sub_self];rfl
theorem cls_ne (k : Nat) : cls k ≠ 0 := by unfold cls; split; · decide
                                           · split<;>decide
def okw (l:List Int) (k:Nat):Bool:=ok l 0 k
theorem okw_any(l:List Int)(i:Nat):∀ k,5<=k->ok l i k=okw l k
 | 0,h|1,h|2,h|3,h|4,h=>by omega
 | 5,_|6,_|_+7,_=>rfl
def Lft (l:List Int) (D:DataW Value):Prop:=IsMap D/\∀ q,
 (has D (ki q)=true->kdK q<8/\D.atKey (ki q) (.held cz) = .held (cv (kdK q))) /\
 (has D (ki q)=false->8<=kdK q∨(5<=kdK q/\okw l (kdK q)=true))
theorem lft9(l:List Int):Lft l D9:=by
 refine⟨by rw[D9_eq];exact⟨_,rfl⟩,fun q=>⟨fun h => ?_,fun h => ?_⟩⟩
 ·have h8:kdK q<8:=of_decide_eq_true ((D9_at q).2.symm.trans h)
  exact⟨h8,by rw[(D9_at q).1,if_pos h8]⟩
 ·have h8:¬ kdK q<8:=of_decide_eq_false ((D9_at q).2.symm.trans h)
  exact .inl (by omega)
theorem lft_del{l:List Int}{D:DataW Value}(h:Lft l D){p:Int}(h5:5<=kdK p)(ho:okw l (kdK p)=true):Lft l (D.del (ki p)):=by
 refine⟨h.1.del _,fun q => ?_⟩
 by_cases e:q=p
 ·subst e
  refine⟨fun hh => ?_,fun _ => .inr ⟨h5,ho⟩⟩
  rw[has_del_same]at hh
  cases hh
 ·have hne:ki q≠ki p:=fun x=>e (Lit.int.inj x).2
  rw[has_del_other hne,atKey_del_other hne]
  exact h.2 q
theorem atKey_none{D:DataW Value}{k:Lit}{z:DataW Value}(hD:IsMap D)(h:has D k=false):D.atKey k z=z:=by
 obtain⟨es,rfl⟩:=hD
 rw[has_eq]at h
 have:es.find? (fun p=>p.1.sameKey k)=none:=by
  rw[List.find?_eq_none]
  intro x hx hh
  have:=List.any_eq_false.1 h x hx
  rw[hh]at this
  exact this rfl
 unfold DataW.atKey
 simp only[this]
theorem kd_key(r:Int):kd r=kdK (kyv r):=rfl
theorem Check_any(l:List Int)(A:Option Addr)(n c:Nat)(w:World)(hn:l.length=n)(hn1:n<=1000000)(hC:C32 l)(hr:Row w w.heap.size A (cl .i32 l)):Calls Tryz.prog 277 #[.slice A n c] w (Tells (.int .u8 (chkC l)) w):=by
 have HN:=Lib.hid hn
 have HCC:=Lib.hid hC
 have HC:=Lib.hid conditions_any
 obtain⟨B,hBe⟩:∃ B,w.heap.size=B:=⟨_,rfl⟩
 rw[hBe]at hr
 have HBE:=Lib.hid hBe
 have HC:=Lib.hid (hBe ▸ conditions_any w)
 clear hn hC hBe
 go_enter Tryz.func277,Tryz.ntmps277
 go_wp2_with(first|(go_at_call 310;refine HC.out.mono ?_;rintro e w1 ⟨rfl,hm1,hb1⟩)|fail)
 go_loopg [11] n (fun m s11 wr => ∃ k:Nat,s11 = .int .i64 (k:Int)/\m=n-k/\k<=n/\Hid (∀ j,j<k->atC l j=0)/\Below B w wr/\B<=wr.heap.size/\∃ D,CMap wr B 9 D/\Lft l D)
 case atStart=>exact⟨0,rfl,rfl,Nat.zero_le _,Lib.hid (fun j hj=>by omega),hb1,by have:=hb1.size;rw[HBE.out]at this;exact this,D9,hm1,lft9 l⟩
 case round =>
  obtain⟨k,rfl,rfl,hk,HNo,hB,hBs,D,hm,hL⟩:=hrel
  clear hm1 hb1 HC
  by_cases hlt:k<n
  ·have hltz:(k:Int)<(n:Int):=by omega
   have hrr:=(hr.below hB).mono hBs
   obtain⟨b,o,rfl,hb,hcc⟩:=(hr.below hB).at_ (by have:=HN.out;simp;omega)
   have c0:=row_cell hcc k (by rw[HN.out];exact hlt)
   have hc:=HCC.out _ (mems (l:=l) (i:=k) (by rw[HN.out];exact hlt))
   have HAT:Hid (atC l k=if kd l[k]! < 8/\ok l k (kd l[k]!)=false then cls (kd l[k]!) else 0):=Lib.hid rfl
   have HH:=Lib.hid (fun W (hk8:kd l[k]! < 8) (h:Row W W.heap.size (some ⟨b,o,none⟩) (cl .i32 l))=>holds_any l k (kd l[k]!) _ n c W HN.out hlt hn1 hk8 h)
   obtain⟨r,hr0⟩:∃ r,l[k]! = r:=⟨_,rfl⟩
   rw[hr0]at c0 hc HAT HH
   have HK:=Lib.hid (key_any r)
   have hLq:=hL.2 (kyv r)
   rw[<-kd_key]at hLq
   have hen:=enterC (kd r)
   have HL9:=Lib.hid hL
   cases hh:has D (ki (kyv r)) with
   | false =>
    have HZ:Hid (atC l k=0):=Lib.hid (by
     rw[HAT.out]
     rcases hLq.2 hh with h8|⟨h5,ho⟩
     ·rw[if_neg (by omega)]
     ·rw[if_neg (by rw[okw_any l k _ h5,ho];simp)])
    have HL:=Lib.hid (fun W (h:CMap W B 9 D)=>h.look (kyv_in hc.1 hc.2).1 (kyv_in hc.1 hc.2).2 (atKey_none hL.1 hh) hh)
    unfold cz at HL
    clear hcc hr0 hLq hh hL HH HAT hen hc
    go_wp2_with(first|(go_at_call 311;refine (HK.out _).mono ?_;rintro e w2 ⟨rfl,hb2⟩;have hl2:=HL.out _ (hm.below hb2))|fail)
    go_roundg (n-(k+1))
    case measure=>omega
    case rel =>
     have hB2:=hB.trans (hb2.mono hBs)
     have hs2:B<=w2.heap.size:=Nat.le_trans hBs hb2.size
     refine⟨k+1,by go_num,rfl,by omega,Lib.hid (fun j hj => ?_),hB2.alloc hs2 _, ?_,D,(hm.below hb2).alloc _,HL9.out⟩
     ·by_cases e:j=k
      ·rw[e];exact HZ.out
      ·exact HNo.out j (by omega)
     ·have:=((Below.refl _ w2).alloc (Nat.le_refl _) (.cells #[.int .u8 0,.bool false,.nilFunc] 350)).size
      exact Nat.le_trans hs2 this
   | true =>
    obtain⟨h8,hat⟩:=hLq.1 hh
    have HL:=Lib.hid (fun W (h:CMap W B 9 D)=>h.look (kyv_in hc.1 hc.2).1 (kyv_in hc.1 hc.2).2 hat hh)
    have HH2:=Lib.hid (fun W (h:Row W W.heap.size (some ⟨b,o,none⟩) (cl .i32 l))=>HH.out W h8 h)
    unfold cv cvc at HL
    rw[fnC_fid]at HL
    have HCL:Hid (cls (kd r)≠0):=Lib.hid (cls_ne _)
    have HQ:Hid (∀ q,ok l k (kd r)=q->atC l k=if q=false then cls (kd r) else 0):=Lib.hid (fun q e=>by rw[HAT.out,e];simp[h8])
    have HW:Hid (whl (kd r)=true->ok l k (kd r)=true->Lft l (D.del (ki (kyv r)))):=Lib.hid (fun e e2=>by
     have h5:5<=kd r:=of_decide_eq_true e
     exact lft_del HL9.out h5 ((okw_any l k _ h5).symm.trans e2))
    have HKY:=Lib.hid (key32 (kyv_in hc.1 hc.2).1 (kyv_in hc.1 hc.2).2)
    clear hcc hr0 hLq hh hL HH HAT hc h8 hat
    generalize fid (kd r)=φ at HL HH2 hen
    obtain⟨q,hq⟩:∃ q,ok l k (kd r)=q:=⟨_,rfl⟩
    rw[hq]at HH2 HW
    have HQ2:=Lib.hid (HQ.out q hq)
    clear HQ hq
    generalize cls (kd r)=x at HL HQ2 HCL
    obtain⟨y,hy⟩:∃ y,whl (kd r)=y:=⟨_,rfl⟩
    rw[hy]at HL HW
    clear hy
    go_upto_region 7 with(first|(go_at_call 311;refine (HK.out _).mono ?_;rintro e w2 ⟨rfl,hb2⟩;have hl2:=HL.out _ (hm.below hb2))|fail)
    have hX:=alloc_new w2 (.cells #[.int .u8 x,.bool y,.func (.func φ) #[] #[]] 350)
    have hm2:=(hm.below hb2).alloc (.cells #[.int .u8 x,.bool y,.func (.func φ) #[] #[]] 350)
    have hB2:=(hB.trans (hb2.mono hBs)).alloc (Nat.le_trans hBs hb2.size) (.cells #[.int .u8 x,.bool y,.func (.func φ) #[] #[]] 350)
    have hs2:=Nat.le_trans (Nat.le_trans hBs hb2.size) (upA w2 (.cells #[.int .u8 x,.bool y,.func (.func φ) #[] #[]] 350)).size
    clear hm hB hBs hl2 hb2 c0
    generalize w2.alloc (.cells #[.int .u8 x,.bool y,.func (.func φ) #[] #[]] 350)=W1 at hX hm2 hB2 hs2 ⊢
    generalize w2.heap.size=X at hX ⊢
    obtain⟨x0,x1,x2,_,_,_⟩:=cells3 hX
    have HX:=Lib.hid (Array.getElem?_eq_some_iff.1 hX).1
    have HF:=Lib.hid (HH2.out W1 ((hr.below hB2).mono hs2))
    clear hX hr HH2 HL
    cases q with
    | false =>
     have HR:Hid (chkC l=x):=Lib.hid (by
      have e:atC l k=x:=HQ2.out
      rw[chk_at (by rw[HN.out];exact hlt) (by rw[e];exact HCL.out) HNo.out,e])
     go_wp2_with(first|(refine HF.out.mono ?_;rintro e w5 ⟨rfl,hb5⟩;have y0:=(hb5.cell (p:=⟨X,0,none⟩) HX.out).trans x0)|fail)
     go_ret
     exact⟨by rw[HR.out];rfl,by rw[HBE.out];exact hB2.trans (hb5.mono hs2)⟩
    | true =>
     have HZ:Hid (∀ j,j<k+1->atC l j=0):=Lib.hid (fun j hj=>by
      by_cases e:j=k
      ·rw[e];exact HQ2.out
      ·exact HNo.out j (by omega))
     clear HQ2 HNo
     cases y with
     | false =>
      go_wp2_with(first|(refine HF.out.mono ?_;rintro e w5 ⟨rfl,hb5⟩;have y1:=(hb5.cell (p:=⟨X,1,none⟩) HX.out).trans x1)|fail)
      go_roundg (n-(k+1))
      case measure=>omega
      case rel=>exact⟨k+1,by go_num,rfl,by omega,HZ,hB2.trans (hb5.mono hs2),Nat.le_trans hs2 hb5.size,D,hm2.below hb5,HL9.out⟩
     | true =>
      go_wp2_with(first
       | (go_at_call 311;refine (HK.out _).mono ?_;rintro e w6 ⟨rfl,hb6⟩;have hB6:=hB5.trans (hb6.mono hs5);have hs6:=Nat.le_trans hs5 hb6.size;have hm6:=hm5.below hb6)
       | (refine HF.out.mono ?_;rintro e w5 ⟨rfl,hb5⟩;have y1:=(hb5.cell (p:=⟨X,1,none⟩) HX.out).trans x1;have hB5:=hB2.trans (hb5.mono hs2);have hs5:=Nat.le_trans hs2 hb5.size;have hm5:=hm2.below hb5)
       | (refine wpList_delete_own _ rfl _ _ 346 21 rfl 350 law32 Tryz.underlying346 RV B 9 D rfl hm6 _ _ rfl HKY.out ?_;intro w7 hm7 ht7)
       | fail)
      go_roundg (n-(k+1))
      case measure=>omega
      case rel =>
       have hg7:=World.mapTurned.grown ht7
       exact⟨k+1,by go_num,rfl,by omega,HZ,hB6.grown hg7 hs6 (fun j hj=>by cases hj;exact Nat.le_refl _),Nat.le_trans hs6 hg7.size,_,hm7,HW.out (by first|trivial|rfl) (by first|trivial|rfl)⟩
  ·obtain rfl:k=n:=by omega
   have hltz:¬ ((k:Nat):Int)<(k:Int):=by omega
   have HZ:Hid (chkC l=0):=Lib.hid (chk_none (by rw[HN.out];exact HNo.out))
   go_wp2_with fail
   go_ret
   exact⟨by rw[HZ.out];rfl,by rw[HBE.out];exact hB⟩
end Go.Proofs.YtkibdkfdffkkfaaGreatDoor.Ctx
namespace Puny
def sca (n:Nat):Bool:=decide (n<=1114111/\(n<55296∨57343<n))
def once:List Nat->List Nat
 | []=>[]
 | [x]=>[x]
 | x::y::l=>if x=y then once (y::l) else x::once (y::l)
def ms (l:List Nat):List Nat:=once ((l.filter (128<=·)).mergeSort (fun a b=>decide (a<=b)))
theorem once_mem(l:List Nat)(z:Nat):z∈once l↔z∈l:=by
 fun_induction once l with
 | case1=>simp
 | case2=>simp
 | case3 x l ih=>rw[ih];simp
 | case4 x y l h ih=>rw[List.mem_cons,ih];simp
theorem once_rise(l:List Nat)(h:l.Pairwise (·<=·)):(once l).Pairwise (· < ·):=by
 fun_induction once l with
 | case1=>simp
 | case2=>simp
 | case3 x l ih=>exact ih (List.pairwise_cons.1 h).2
 | case4 x y l hne ih =>
  rw[List.pairwise_cons]at h ⊢
  refine⟨fun z hz => ?_,ih h.2⟩
  have hz':=(once_mem (y::l) z).1 hz
  have h1:=h.1 y (by simp)
  rcases List.mem_cons.1 hz' with rfl|hz''
  ·omega
  ·have:=(List.pairwise_cons.1 h.2).1 z hz''
   omega
theorem ms_mem(l:List Nat)(z:Nat):z∈ms l↔z∈l/\128<=z:=by
 unfold ms
 rw[once_mem,List.mem_mergeSort,List.mem_filter]
 simp
theorem ms_rise(l:List Nat):(ms l).Pairwise (· < ·):=by
 refine once_rise _ ?_
 have:=List.pairwise_mergeSort (le:=fun a b:Nat=>decide (a<=b)) (by intro a b c;simp;omega) (by intro a b;simp;omega) (l.filter (128<=·))
 exact this.imp fun h=>by simpa using h
theorem rise_ext:∀ (a b:List Nat),a.Pairwise (· < ·)->b.Pairwise (· < ·)->(∀ z,z∈a↔z∈b)->a=b
 | [],[],_,_,_=>rfl
 | [],y::b,_,_,h=>by have:=(h y).2 (by simp);simp at this
 | x::a,[],_,_,h=>by have:=(h x).1 (by simp);simp at this
 | x :: a, y :: b, ha, hb, h => by
  rw[List.pairwise_cons]at ha hb
  have hx:x=y:=by
   have h1:=(h x).1 (by simp)
   have h2:=(h y).2 (by simp)
   rcases List.mem_cons.1 h1 with e|e
   ·exact e
   ·rcases List.mem_cons.1 h2 with e2|e2
    ·exact e2.symm
    ·have:=ha.1 y e2;have:=hb.1 x e;omega
  subst hx
  congr 1
  refine rise_ext a b ha.2 hb.2 fun z=>⟨fun hz => ?_,fun hz => ?_⟩
  ·rcases List.mem_cons.1 ((h z).1 (List.mem_cons_of_mem _ hz)) with e|e
   ·have:=ha.1 z hz;omega
   ·exact e
  ·rcases List.mem_cons.1 ((h z).2 (List.mem_cons_of_mem _ hz)) with e|e
   ·have:=hb.1 z hz;omega
   ·exact e
def scan (m:Nat):List Nat->Nat->List (Nat × Nat)
 | [],_=>[]
 | r::l,p=>if r=m then (m,p)::scan m l (p+1) else if r<=m then scan m l (p+1) else scan m l p
def evs (l:List Nat):List (Nat × Nat):=(ms l).flatMap fun m=>scan m l 0
def dels:List (Nat × Nat)->Nat->Nat->Nat->List Nat
 | [],_,_,_=>[]
 | (m,p)::es,h,n,i=>((m-n)*(h+1)+p-i)::dels es (h+1) m (p+1)
def basics (l:List Nat):List Nat:=l.filter (· < 128)
def deltas (l:List Nat):List Nat:=dels (evs l) (basics l).length 128 0
def ins:List Nat->Nat->Nat->List Nat->Option (List Nat)
 | out,_,_,[]=>some out
 | out, n, i, d :: ds =>
  if sca (n+(i+d)/(out.length+1)) then
   ins (out.take ((i+d)%(out.length+1))++(n+(i+d)/(out.length+1))::out.drop ((i+d)%(out.length+1))) (n+(i+d)/(out.length+1)) ((i+d)%(out.length+1)+1) ds
  else none
theorem ins_step{a b:List Nat}{m n i:Nat}(hm:sca m=true)(hn:n<=m)(h:n<m/\i<=(a++b).length∨n=m/\i<=a.length)(ds:List Nat) :
  ins (a++b) n i (((m-n)*((a++b).length+1)+a.length-i)::ds)=ins (a++m::b) m (a.length+1) ds:=by
 have hle:i<=(m-n)*((a++b).length+1)+a.length:=by
  rcases h with ⟨h1,h2⟩|⟨_,h2⟩
  ·have:=Nat.le_mul_of_pos_left ((a++b).length+1) (show 0<m-n by omega)
   omega
  ·omega
 have e:i+((m-n)*((a++b).length+1)+a.length-i)=a.length+((a++b).length+1)*(m-n):=by rw[Nat.mul_comm];rw[Nat.mul_comm]at hle;omega
 have hal:a.length<(a++b).length+1:=by simp;omega
 have e1:(i+((m-n)*((a++b).length+1)+a.length-i))/((a++b).length+1)=m-n:=by
  rw[e,Nat.add_mul_div_left _ _ (by omega),Nat.div_eq_of_lt hal,Nat.zero_add]
 have e2:(i+((m-n)*((a++b).length+1)+a.length-i))%((a++b).length+1)=a.length:=by
  rw[e,Nat.add_mul_mod_self_left,Nat.mod_eq_of_lt hal]
 rw[ins,e1,e2,show n+(m-n)=m by omega,if_pos hm]
 congr 1
 simp
theorem small_step{a b:List Nat}{m n i:Nat}(hm:sca m=true):(m-n)*((a++b).length+1)+a.length-i<many*((a++b).length+1):=by
 have h1:m<=1114111:=by unfold sca at hm;simp at hm;exact hm.1
 have h2:(m-n)*((a++b).length+1)<=1114111*((a++b).length+1):=Nat.mul_le_mul_right _ (by omega)
 have hal:a.length<(a++b).length+1:=by simp;omega
 show _<1114112*_
 omega
theorem ins_scan(m:Nat)(hm:sca m=true):∀ (l2 l1:List Nat) (n i:Nat),n<=m ->
  (n<m/\i<=(l1.filter (·<=m)++l2.filter (· < m)).length∨n=m/\i<=(l1.filter (·<=m)).length) ->
  ∃ n' i', n' ≤ m ∧ i' ≤ ((l1 ++ l2).filter (· ≤ m)).length ∧ ∀ es,
   (ins ((l1++l2).filter (·<=m)) n' i' (dels es ((l1++l2).filter (·<=m)).length n' i') =
    ins (l1.filter (·<=m)++l2.filter (· < m)) n i (dels (scan m l2 (l1.filter (·<=m)).length++es) (l1.filter (·<=m)++l2.filter (· < m)).length n i)) /\
   (Small (dels es ((l1++l2).filter (·<=m)).length n' i') ((l1++l2).filter (·<=m)).length ->
    Small (dels (scan m l2 (l1.filter (·<=m)).length++es) (l1.filter (·<=m)++l2.filter (· < m)).length n i) (l1.filter (·<=m)++l2.filter (· < m)).length)
 | [], l1, n, i, hn, h => by
  refine⟨n,i,hn, ?_,fun es => ?_⟩
  ·simp at h ⊢;omega
  ·simp[scan]
 | r :: l2, l1, n, i, hn, h => by
  rcases Nat.lt_trichotomy r m with hr|hr|hr
  ·
   have e1:(r::l2).filter (· < m)=r::l2.filter (· < m):=by simp[hr]
   have e2:(l1++[r]).filter (·<=m)=l1.filter (·<=m)++[r]:=by simp[Nat.le_of_lt hr]
   have e3:scan m (r::l2) (l1.filter (·<=m)).length=scan m l2 ((l1++[r]).filter (·<=m)).length:=by
    rw[scan,if_neg (by omega),if_pos (by omega),e2];simp
   obtain⟨n',i',g1,g2,g3⟩:=ins_scan m hm l2 (l1++[r]) n i hn (by rw[e1]at h;rw[e2];simp at h ⊢;omega)
   have e4:l1.filter (·<=m)++(r::l2).filter (· < m)=(l1++[r]).filter (·<=m)++l2.filter (· < m):=by rw[e1,e2];simp
   have e5:l1++r::l2=l1++[r]++l2:=by simp
   refine⟨n',i',g1, ?_,fun es => ?_⟩
   ·rw[e5];exact g2
   ·rw[e5,e4,e3];exact g3 es
  ·
   subst hr
   have e1:(r::l2).filter (· < r)=l2.filter (· < r):=by simp
   have e2:(l1++[r]).filter (·<=r)=l1.filter (·<=r)++[r]:=by simp
   obtain⟨n',i',g1,g2,g3⟩:=ins_scan r hm l2 (l1++[r]) r ((l1.filter (·<=r)).length+1) (Nat.le_refl _) (.inr ⟨rfl,by rw[e2];simp⟩)
   have e4:(l1++[r]).filter (·<=r)++l2.filter (· < r)=l1.filter (·<=r)++r::l2.filter (· < r):=by rw[e2];simp
   have e5:l1++r::l2=l1++[r]++l2:=by simp
   have e6:scan r (r::l2) (l1.filter (·<=r)).length=(r,(l1.filter (·<=r)).length)::scan r l2 ((l1++[r]).filter (·<=r)).length:=by
    rw[scan,if_pos rfl,e2];simp
   have e7:(l1.filter (·<=r)++r::l2.filter (· < r)).length=(l1.filter (·<=r)++l2.filter (· < r)).length+1:=by simp;omega
   refine⟨n',i',g1,by rw[e5];exact g2,fun es => ?_⟩
   obtain⟨g4,g5⟩:=g3 es
   rw[e5,e1,e6,List.cons_append,dels,ins_step hm hn (by rw[e1]at h;exact h)]
   rw[e4,e7]at g4 g5
   refine⟨g4,fun hs => ?_⟩
   exact⟨small_step hm,g5 hs⟩
  ·
   have e1:(r::l2).filter (· < m)=l2.filter (· < m):=by rw[List.filter_cons,if_neg (by simpa using Nat.le_of_lt hr)]
   have e2:(l1++[r]).filter (·<=m)=l1.filter (·<=m):=by rw[List.filter_append,List.filter_cons,if_neg (by simpa using hr)];simp
   have e3:scan m (r::l2) (l1.filter (·<=m)).length=scan m l2 ((l1++[r]).filter (·<=m)).length:=by
    rw[scan,if_neg (by omega),if_neg (by omega),e2]
   obtain⟨n',i',g1,g2,g3⟩:=ins_scan m hm l2 (l1++[r]) n i hn (by rw[e1]at h;rw[e2];exact h)
   have e5:l1++r::l2=l1++[r]++l2:=by simp
   refine⟨n',i',g1, ?_,fun es => ?_⟩
   ·rw[e5];exact g2
   ·rw[e5,e1,e3,e2.symm];exact g3 es
theorem ins_all(l:List Nat):∀ (rem:List Nat) (cur:List Nat) (n i:Nat),rem.Pairwise (· < ·)->(∀ x∈rem,sca x=true)->(∀ x∈l,x∈rem∨∀ y∈rem,x<y) ->
  cur=l.filter (fun x=>decide (x ∉ rem))->(∀ y∈rem,n<=y)->(∀ y∈rem,n<y∨i=0)->i<=cur.length ->
  ins cur n i (dels (rem.flatMap fun m=>scan m l 0) cur.length n i)=some l/\Small (dels (rem.flatMap fun m=>scan m l 0) cur.length n i) cur.length
 | [], cur, n, i, _, _, _, hc, _, _, _ => by
  subst hc
  simp[dels,ins,Small]
 | m :: rem, cur, n, i, hp, hsc, hl, hc, hn, hi, hic => by
  have hp':=List.pairwise_cons.1 hp
  have c1:cur=([]:List Nat).filter (·<=m)++l.filter (· < m):=by
   rw[hc,List.filter_nil,List.nil_append]
   refine List.filter_congr fun x hx => ?_
   rcases hl x hx with h|h
   ·rcases List.mem_cons.1 h with rfl|h2
    ·simp
    ·have:=hp'.1 x h2;simp[h];omega
   ·have h1:=h m (by simp)
    have h2:x ∉ m::rem:=fun hh=>by have:=h x hh;omega
    simp[h2,h1]
  have c2:([]++l).filter (·<=m)=l.filter (fun x=>decide (x ∉ rem)):=by
   rw[List.nil_append]
   refine List.filter_congr fun x hx => ?_
   rcases hl x hx with h|h
   ·rcases List.mem_cons.1 h with rfl|h2
    ·have:x ∉ rem:=fun hh=>by have:=hp'.1 x hh;omega
     simp[this]
    ·have:=hp'.1 x h2;simp[h2];omega
   ·have h1:=h m (by simp)
    have h2:x ∉ rem:=fun hh=>by have:=h x (List.mem_cons_of_mem _ hh);omega
    simp[h2];omega
  obtain⟨n',i',g1,g2,g3⟩:=ins_scan m (hsc m (by simp)) l [] n i (hn m (by simp)) (by
   rw[<-c1]
   rcases hi m (by simp) with h|h
   ·exact .inl ⟨h,hic⟩
   ·rcases Nat.lt_or_ge n m with h2|h2
    ·exact .inl ⟨h2,hic⟩
    ·exact .inr ⟨by have:=hn m (by simp);omega,by omega⟩)
  obtain⟨g4,g5⟩:=g3 (rem.flatMap fun m=>scan m l 0)
  have ih:=ins_all l rem (([]++l).filter (·<=m)) n' i' hp'.2 (fun x hx=>hsc x (by simp[hx])) (fun x hx=>by
    rcases hl x hx with h|h
    ·rcases List.mem_cons.1 h with rfl|h2
     ·exact .inr fun y hy=>hp'.1 y hy
     ·exact .inl h2
    ·exact .inr fun y hy=>h y (by simp[hy])) c2 (fun y hy=>by have:=hp'.1 y hy;omega) (fun y hy=>by have:=hp'.1 y hy;exact .inl (by omega)) g2
  rw[List.flatMap_cons,c1]
  rw[List.filter_nil,List.length_nil]at g4 g5
  rw[List.filter_nil]
  exact⟨g4.symm.trans ih.1,g5 ih.2⟩
theorem ins_deltas(l:List Nat)(hs:∀ x∈l,sca x=true):ins (basics l) 128 0 (deltas l)=some l/\Small (deltas l) (basics l).length:=by
 refine ins_all l (ms l) (basics l) 128 0 (ms_rise l) (fun x hx=>hs x ((ms_mem l x).1 hx).1) (fun x hx => ?_) ?_ (fun y hy=>((ms_mem l y).1 hy).2) (fun _ _ => .inr rfl) (Nat.zero_le _)
 ·by_cases h:128<=x
  ·exact .inl ((ms_mem l x).2 ⟨hx,h⟩)
  ·exact .inr fun y hy=>by have:=((ms_mem l y).1 hy).2;omega
 ·unfold basics
  refine List.filter_congr fun x hx => ?_
  rw[decide_eq_decide,ms_mem]
  constructor
  ·intro h1 h2;omega
  ·intro h1
   rcases Nat.lt_or_ge x 128 with h2|h2
   ·exact h2
   ·exact absurd ⟨hx,h2⟩ h1
theorem scan_append(m:Nat):∀ (a b:List Nat) (p:Nat),scan m (a++b) p=scan m a p++scan m b (p+(a.filter (·<=m)).length)
 | [],b,p=>by simp[scan]
 | r :: a, b, p => by
  rw[List.cons_append,scan,scan,scan_append m a b (p+1),scan_append m a b p]
  by_cases h1:r=m
  ·subst h1;simp;congr 1;omega
  ·rw[if_neg h1,if_neg h1]
   by_cases h2:r<=m
   ·rw[if_pos h2,if_pos h2];simp[h2];congr 1;omega
   ·rw[if_neg h2,if_neg h2];simp[h2]
theorem scan_none(m:Nat):∀ (a:List Nat) (p:Nat),m ∉ a->scan m a p=[]
 | [],_,_=>rfl
 | r :: a, p, h => by
  simp at h
  rw[scan,if_neg (fun e=>h.1 e.symm)]
  split<;>exact scan_none m a _ h.2
theorem scan_past{m x:Nat}(h:m<x)(a b:List Nat)(p:Nat):scan m (a++x::b) p=scan m (a++b) p:=by
 rw[scan_append,scan_append,scan,if_neg (by omega),if_neg (by omega)]
theorem evs_put{a b:List Nat}{x:Nat}(hx:128<=x)(ha:∀ y∈a,y<=x)(hb:∀ y∈b,y<x):evs (a++x::b)=evs (a++b)++[(x,a.length)]:=by
 have hlast:scan x (a++x::b) 0=scan x (a++b) 0++[(x,a.length)]:=by
  have e:(a.filter (·<=x)).length=a.length:=by
   rw[List.filter_eq_self.2 (fun y hy=>by simpa using ha y hy)]
  have hnb:x ∉ b:=fun hh=>by have:=hb x hh;omega
  rw[scan_append,scan_append,e,scan_none x b _ hnb,scan,if_pos rfl,scan_none x b _ hnb]
  simp
 have key:∀ rem:List Nat,(∀ y∈rem,y<x)->(rem.flatMap fun m=>scan m (a++x::b) 0)=rem.flatMap fun m=>scan m (a++b) 0:=by
  intro rem hrem
  induction rem with
  | nil=>rfl
  | cons m rem ih =>
   rw[List.flatMap_cons,List.flatMap_cons,ih (fun y hy=>hrem y (by simp[hy])),scan_past (hrem m (by simp))]
 by_cases hin:x∈a
 ·have hms:ms (a++x::b)=ms (a++b):=rise_ext _ _ (ms_rise _) (ms_rise _) fun z=>by
   rw[ms_mem,ms_mem];simp
   intro _
   constructor
   ·rintro (h|rfl|h)
    ·exact .inl h
    ·exact .inl hin
    ·exact .inr h
   ·rintro (h|h)
    ·exact .inl h
    ·exact .inr (.inr h)
  have hxm:x∈ms (a++b):=(ms_mem _ _).2 ⟨by simp[hin],hx⟩
  have hr:=ms_rise (a++b)
  obtain⟨s,t,hst⟩:=List.append_of_mem hxm
  have ht:t=[]:=by
   cases t with
   | nil=>rfl
   | cons y t =>
    rw[hst,List.pairwise_append]at hr
    have h1:x<y:=(List.pairwise_cons.1 hr.2.1).1 y (by simp)
    have h2:y∈ms (a++b):=by rw[hst];simp
    have h3:=((ms_mem _ _).1 h2).1
    rcases List.mem_append.1 h3 with h|h
    ·have:=ha y h;omega
    ·have:=hb y h;omega
  subst ht
  have hs:∀ y∈s,y<x:=fun y hy=>by
   rw[hst,List.pairwise_append]at hr
   exact hr.2.2 y hy x (by simp)
  unfold evs
  rw[hms,hst,List.flatMap_append,List.flatMap_append,key s hs]
  simp only[List.flatMap_cons,List.flatMap_nil,List.append_nil]
  rw[hlast];simp
 ·have hlt:∀ y∈a++b,y<x:=fun y hy=>by
   rcases List.mem_append.1 hy with h|h
   ·have:=ha y h
    have:y≠x:=fun e=>hin (e ▸ h)
    omega
   ·exact hb y h
  have hms:ms (a++x::b)=ms (a++b)++[x]:=rise_ext _ _ (ms_rise _) (by
    rw[List.pairwise_append]
    refine⟨ms_rise _,by simp,fun y hy z hz => ?_⟩
    simp at hz;subst hz
    exact hlt y ((ms_mem _ _).1 hy).1) fun z=>by
   rw[List.mem_append,ms_mem,ms_mem]
   simp
   constructor
   ·rintro ⟨h|rfl|h,h2⟩
    ·exact .inl ⟨.inl h,h2⟩
    ·exact .inr rfl
    ·exact .inl ⟨.inr h,h2⟩
   ·rintro (⟨h|h,h2⟩|rfl)
    ·exact⟨.inl h,h2⟩
    ·exact⟨.inr (.inr h),h2⟩
    ·exact⟨.inr (.inl rfl),hx⟩
  unfold evs
  rw[hms,List.flatMap_append,key _ (fun y hy=>hlt y ((ms_mem _ _).1 hy).1)]
  simp only[List.flatMap_cons,List.flatMap_nil,List.append_nil]
  rw[hlast,scan_none x (a++b) 0 (fun hh=>by have:=hlt x hh;omega)]
  simp
def fin:List (Nat × Nat)->Nat->Nat->Nat × Nat
 | [],n,i=>(n,i)
 | (m,p)::es,_,_=>fin es m (p+1)
theorem dels_snoc:∀ (es:List (Nat × Nat)) (h n i m p:Nat),dels (es++[(m,p)]) h n i=dels es h n i++[(m-(fin es n i).1)*(h+es.length+1)+p-(fin es n i).2]
 | [],h,n,i,m,p=>by simp[dels,fin]
 | (a, b) :: es, h, n, i, m, p => by
  rw[List.cons_append,dels,dels,dels_snoc es (h+1) a (b+1) m p,fin]
  simp
  congr 3
  omega
theorem fin_snoc:∀ (es:List (Nat × Nat)) (n i m p:Nat),fin (es++[(m,p)]) n i=(m,p+1)
 | [],n,i,m,p=>rfl
 | (a,b)::es,n,i,m,p=>by rw[List.cons_append,fin,fin_snoc]
theorem ins_back:∀ (ds out r:List Nat) (n i:Nat) (pre:List Nat),ins out n i ds=some r->128<=n->i<=out.length->(∀ x∈out,x<=n)->n ∉ out.drop i->(∀ x∈out,sca x=true) ->
  fin (evs out) 128 0=(n,i)->(basics out).length+(evs out).length=out.length->deltas out=pre ->
  deltas r=pre++ds/\basics r=basics out/\(∀ x∈r,sca x=true)/\r.length=out.length+ds.length
 | [], out, r, n, i, pre, h, _, _, _, _, hs, _, _, hd => by
  injection h with h
  subst h
  exact⟨by simp[hd],rfl,hs,by simp⟩
 | d :: ds, out, r, n, i, pre, h, hn, hi, hle, hni, hs, hf, hlen, hd => by
  rw[ins]at h
  split at h
  ·rename_i hsc
   obtain⟨N,hN⟩:∃ N,n+(i+d)/(out.length+1)=N:=⟨_,rfl⟩
   obtain⟨p,hp⟩:∃ p,(i+d)%(out.length+1)=p:=⟨_,rfl⟩
   have hpl:p<out.length+1:=by rw[<-hp];exact Nat.mod_lt _ (by omega)
   have hdm:=Nat.div_add_mod (i+d) (out.length+1)
   rw[hp]at h hdm
   rw[hN]at h hsc
   have hnN:n<=N:=by rw[<-hN];exact Nat.le_add_right _ _
   have hdrop:∀ y∈out.drop p,y<N:=by
    intro y hy
    have h1:=hle y (List.mem_of_mem_drop hy)
    rcases Nat.lt_or_ge n N with h2|h2
    ·omega
    ·have e:N=n:=by omega
     have hq:(i+d)/(out.length+1)=0:=by omega
     rw[hq,Nat.mul_zero,Nat.zero_add]at hdm
     have hip:i<=p:=by omega
     have:y∈out.drop i:=by
      rw[show p=i+(p-i) by omega,<-List.drop_drop]at hy
      exact List.mem_of_mem_drop hy
     have:y≠n:=fun e2=>hni (e2 ▸ this)
     omega
   have htake:∀ y∈out.take p,y<=N:=fun y hy=>by have:=hle y (List.mem_of_mem_take hy);omega
   have hev:=evs_put (x:=N) (by omega) htake hdrop
   have hpt:(out.take p).length=p:=by rw[List.length_take];omega
   rw[List.take_append_drop,hpt]at hev
   have hb:basics (out.take p++N::out.drop p)=basics out:=by
    unfold basics
    rw[List.filter_append,List.filter_cons,if_neg (by simp;omega),<-List.filter_append,List.take_append_drop]
   have hL:(out.take p++N::out.drop p).length=out.length+1:=by rw[List.length_append,List.length_cons,List.length_drop,hpt];omega
   have hnew:deltas (out.take p++N::out.drop p)=pre++[d]:=by
    unfold deltas at hd ⊢
    rw[hev,hb,dels_snoc,hd,hf]
    congr 2
    rw[show (basics out).length+(evs out).length+1=out.length+1 by omega]
    simp only
    rw[show N-n=(i+d)/(out.length+1) by omega,Nat.mul_comm]
    omega
   obtain⟨j1,j2,j3,j4⟩:=ins_back ds _ r N (p+1) (pre++[d]) h (by omega) (by omega) (fun x hx=>by
     rcases List.mem_append.1 hx with hx|hx
     ·exact htake x hx
     ·rcases List.mem_cons.1 hx with rfl|hx
      ·exact Nat.le_refl _
      ·have:=hdrop x hx;omega) (by
     rw[List.drop_append,hpt,List.drop_of_length_le (by rw[hpt];omega),List.nil_append,show p+1-p=1 by omega,List.drop_succ_cons,List.drop_zero]
     intro hh
     have:=hdrop N hh;omega) (fun x hx=>by
     rcases List.mem_append.1 hx with hx|hx
     ·exact hs x (List.mem_of_mem_take hx)
     ·rcases List.mem_cons.1 hx with rfl|hx
      ·exact hsc
      ·exact hs x (List.mem_of_mem_drop hx)) (by rw[hev,fin_snoc]) (by rw[hb,hev,hL,List.length_append];simp;omega) hnew
   refine⟨by rw[j1];simp,j2.trans hb,j3, ?_⟩
   rw[j4,hL];simp;omega
  ·cases h
theorem ms_basic(out:List Nat)(h:∀ x∈out,x<128):ms out=[]:=by
 cases hm:ms out with
 | nil=>rfl
 | cons y t =>
  have:=(ms_mem out y).1 (by rw[hm];simp)
  have:=h y this.1
  omega
theorem deltas_ins{b r ds:List Nat}(hb:∀ x∈b,x<128)(h:ins b 128 0 ds=some r):deltas r=ds/\basics r=b/\(∀ x∈r,sca x=true)/\r.length=b.length+ds.length:=by
 have hm:=ms_basic b hb
 have he:evs b=[]:=by unfold evs;rw[hm];rfl
 have hbb:basics b=b:=List.filter_eq_self.2 fun x hx=>by simpa using hb x hx
 obtain⟨h1,h2,h3,h4⟩:=ins_back ds b r 128 0 [] h (Nat.le_refl _) (Nat.zero_le _) (fun x hx=>by have:=hb x hx;omega) (fun hh=>by have:=hb 128 (List.mem_of_mem_drop hh);omega)
  (fun x hx=>by have:=hb x hx;unfold sca;simp;omega) (by rw[he];rfl) (by rw[he,hbb];simp) (by unfold deltas;rw[he];rfl)
 exact⟨by simpa using h1,by rw[h2,hbb],h3,h4⟩
end Puny
