import Derived.Test.YtkibdkfdffkkfaaGreatDoorPk10
import Derived.Test.YtkibdkfdffkkfaaGreatDoorPk20
import Derived.Test.YtkibdkfdffkkfaaGreatDoorPk23
set_option maxRecDepth 100000
set_option maxHeartbeats 8000000
namespace Go.Proofs.YtkibdkfdffkkfaaGreatDoor.Hst
open Go.RowKit Utf Remap Norm
def good (l:List Int):Bool:=l.all fun r=>decide ((one r).2≠3)
theorem good_take{l:List Int}{k:Nat}(h:k<l.length):good (l.take (k+1))=(good (l.take k)&&decide ((one l[k]).2≠3)):=by
 unfold good
 rw[List.take_add_one,List.getElem?_eq_getElem h,List.all_append]
 simp
def MapG (w:World) (l:List Int) (e:Ending) (w':World):Prop :=
 ∃ A c,e = .returned (.tuple #[.slice A (mapL l).length c,.bool (good l)])/\w'.ownsRow w.heap.size 21 1 (.slice A (mapL l).length c) (mapL l).length (cl .i32 (mapL l))/\Below w.heap.size w w'
theorem MapG_any(l:List Int)(A:Option Addr)(n c:Nat)(w:World)(hn:l.length=n)(hl:n<=2000)(hr:Row w w.heap.size A (cl .i32 l)):Calls Tryz.prog 146 #[.slice A n c] w (MapG w l):=by
 obtain⟨i0,hi,hz0,hz1,hz2⟩:=info_split info_int32
 have HZ:=Lib.hid hz2
 have HN:=Lib.hid hn
 clear hn
 go_enter Tryz.func146,Tryz.ntmps146
 go_wp2_with(first|(at_make;refine wpList_make_own _ rfl _ _ 22 rfl w.heap.size 21 i0 _ 1 Tryz.underlying22 hi hz0 hz1 .i64 .i64 _ n rfl rfl rfl (by rw[HZ.out];omega) (by unfold maxLen;omega) (Nat.le_refl _) ?_;intro w1 hown1 hgrow1)|fail)
 have hB1:Below w.heap.size w w1:=(Below.refl _ _).grown hgrow1 (Nat.le_refl _) (fun j e=>by cases e)
 go_loopg [4,5,15] n (fun m s4 s5 s15 wr => ∃ (k c:Nat) (A2:Option Addr) (q:Bool),Hid (q=good (l.take k))/\s15 = .int .i64 (k:Int)/\m=n-k/\k<=n/\s4 = .slice A2 (mapL (l.take k)).length c/\s5 = .bool q/\wr.ownsRow w.heap.size 21 1 (.slice A2 (mapL (l.take k)).length c) (mapL (l.take k)).length (cl .i32 (mapL (l.take k)))/\Below w.heap.size w wr)
 case atStart=>exact⟨0,n,_,true,Lib.hid rfl,rfl,rfl,Nat.zero_le _,rfl,rfl,hown1,hB1⟩
 case round =>
  clear hown1 hB1 hgrow1
  obtain⟨k,c',A2,q,HG,rfl,rfl,hk,rfl,rfl,hO,hB⟩:=hrel
  by_cases hlt:k<n
  ·have hltz:(k:Int)<(n:Int):=by omega
   have hlt':k<l.length:=by rw[HN.out];exact hlt
   have HMT:=Lib.hid (mapL_take hlt')
   have HGT:=Lib.hid (good_take hlt')
   rw[<-HG.out]at HGT
   have hnl:(mapL (l.take k)).length<=6000:=by have:=mapL_len (l.take k);rw[List.length_take]at this;omega
   obtain⟨b0,o0,rfl,hb0,hcc⟩:=(hr.below hB).at_ (by simp;omega)
   have c0:=row_cell hcc k hlt'
   rw[show l[k]! = l[k] from getElem!_pos l k hlt']at c0
   obtain⟨r,hx⟩:∃ r,l[k]=r:=⟨_,rfl⟩
   rw[hx]at c0 HMT HGT
   have HO:=Lib.hid (fun w=>One_any r w)
   have hm3:=m1_len r
   have HM1:Hid (m1 r=if (one r).2=3 then [r] else (one r).1):=Lib.hid rfl
   generalize one r=p at HO HM1 HGT
   obtain⟨R,how⟩:=p
   obtain⟨P,hP⟩:∃ P,mapL (l.take k)=P:=⟨_,rfl⟩
   rw[hP]at hO hnl HMT ⊢
   obtain⟨F,hF⟩:∃ F,m1 r=F:=⟨_,rfl⟩
   rw[hF]at HM1 HMT hm3
   clear hcc hx hP hF hlt'
   unfold OneV at HO
   dsimp only at HO HM1 HGT
   by_cases h3:how=3
   ·obtain rfl:F=[r]:=by rw[HM1.out,if_pos h3]
    subst h3
    go_wp2_with(first
     | (go_at_call 193;refine (HO.out _).mono ?_;rintro e w2 ⟨A3,c3,rfl,ho3,hb3⟩;have hO3:=own_below hO hb3;have hB3:=hB.trans (hb3.mono hB.size))
     | (at_builtin;refine wpList_append_row _ rfl _ _ 22 rfl w.heap.size 21 i0 (.int .i32 0) 1 4 Tryz.underlying22 hi hz0 hz1 hz2 rfl (by decide) _ P.length (cl .i32 P) rfl (hO3.alloc _) _ _ 1 1 [.int .i32 r] rfl rfl (row_new' _ _ _ _ rfl) (by simp[Value.oneCell']) (by unfold maxLen;omega) (by omega) (hB3.alloc hB3.size _).size ?_;intro v4 w4 hO4 hg4;obtain⟨A4,c4,hv4⟩:=own_shape hO4;subst hv4)
     | fail)
    have hB4:Below w.heap.size w w4:=(hB3.alloc hB3.size (.cells #[.int .i32 r] 21)).grown hg4 (hB3.alloc hB3.size _).size (fun j e=>((hO3.alloc (.cells #[.int .i32 r] 21)).lt j e).1)
    go_roundg (n-(k+1))
    case measure=>omega
    case rel =>
     refine⟨k+1,c4,A4,false,Lib.hid (by rw[HGT.out];simp),by go_num,rfl,by omega, ?_,rfl, ?_,hB4⟩
     ·rw[HMT.out,List.length_append];rfl
     ·rw[HMT.out,List.length_append,show cl .i32 (P++[r])=cl .i32 P++[.int .i32 r] from by simp[cl]]
      exact hO4
   ·obtain rfl:F=R:=by rw[HM1.out,if_neg h3]
    have h3b:(how==3)=false:=by simpa using h3
    have HH3:Hid (how≠3):=Lib.hid h3
    go_wp2_with(first
     | (go_at_call 193;refine (HO.out _).mono ?_;rintro e w2 ⟨A3,c3,rfl,ho3,hb3⟩;have hO3:=own_below hO hb3;have hB3:=hB.trans (hb3.mono hB.size))
     | (at_builtin;refine wpList_append_row _ rfl _ _ 22 rfl w.heap.size 21 i0 (.int .i32 0) 1 4 Tryz.underlying22 hi hz0 hz1 hz2 rfl (by decide) _ P.length (cl .i32 P) rfl hO3 _ A3 F.length c3 (cl .i32 F) rfl (by simp) (Row.of_own ho3) (one_cl _ _) (by unfold maxLen;omega) (by omega) hB3.size ?_;intro v4 w4 hO4 hg4;obtain⟨A4,c4,hv4⟩:=own_shape hO4;subst hv4)
     | fail)
    have hB4:Below w.heap.size w w4:=hB3.grown hg4 hB3.size (fun j e=>(hO3.lt j e).1)
    go_roundg (n-(k+1))
    case measure=>omega
    case rel =>
     refine⟨k+1,c4,A4,q,Lib.hid (by rw[HGT.out,decide_eq_true (HH3.out)];simp),by go_num,rfl,by omega, ?_,rfl, ?_,hB4⟩
     ·rw[HMT.out,List.length_append]
     ·rw[HMT.out,List.length_append,show cl .i32 (P++F)=cl .i32 P++cl .i32 F from by simp[cl]]
      exact hO4
  ·obtain rfl:k=n:=by omega
   have hltz:¬ ((k:Nat):Int)<(k:Int):=by omega
   have HGE:Hid (q=good l):=Lib.hid (by rw[HG.out,List.take_of_length_le (by rw[HN.out];exact Nat.le_refl _)])
   rw[List.take_of_length_le (by rw[HN.out];exact Nat.le_refl _)]at hO ⊢
   go_wp2_with fail
   go_ret2
   rw[HGE.out]
   exact⟨A2,c',rfl,hO,hB⟩
def byd (r:Int):Bool:=decide (128<=r)
theorem byd_any(r:Int)(w:World):Calls Tryz.prog 274 #[.int .i32 r] w (Says (byd r) w):=by
 go_enter Tryz.func274,Tryz.ntmps274
 go_wp2_with fail
 go_ret
 exact⟨rfl,Below.refl _ _⟩
def PlaceB (q:Bool) (w:World) (e:Ending) (w':World):Prop:=∃ i:Int,e = .returned (.int .i64 i)/\decide (0<=i)=q/\Below w.heap.size w w'
theorem mem_at{l:List Int}{i:Nat}(h:i<l.length):l[i]!∈l:=by
 rw[getElem!_pos l i h]
 exact List.getElem_mem h
theorem cell_at{w:World}{b o:Nat}{l:List Int}(hc:∀ k,k<(cl .i32 l).length->w.cell? ⟨b,o+k,none⟩=(cl .i32 l)[k]?){k:Nat}(h:k<l.length):w.cell? ⟨b,o+k,none⟩=some (.int .i32 l[k]!):=by
 rw[hc k (by simpa[cl] using h),getElem!_pos l k h]
 simp[cl,List.getElem?_eq_getElem h]
theorem Index_bey(l:List Int)(A:Option Addr)(n c:Nat)(w0:World)(hn:l.length=n)(hn1:n<=1000000)(hr:Row w0 w0.heap.size A (cl .i32 l)):Calls Tryz.prog 126 #[.slice A n c,.func (.func 274) #[] #[]] w0 (PlaceB (l.any byd) w0):=by
 have HN:=Lib.hid hn
 clear hn
 go_enter Tryz.func126,Tryz.ntmps126
 go_wp2_with fail
 go_loopg [8] n (fun m s8 wr => ∃ k:Nat,s8 = .int .i64 (k:Int)/\m=n-k/\k<=n/\Hid (∀ j,j<k->byd l[j]! = false)/\Below w0.heap.size w0 wr)
 case atStart=>exact⟨0,rfl,rfl,Nat.zero_le _,Lib.hid (fun j hj=>by omega),Below.refl _ _⟩
 case round =>
  obtain⟨k,rfl,rfl,hk,HNo,hB⟩:=hrel
  by_cases hlt:k<n
  ·have hltz:(k:Int)<(n:Int):=by omega
   obtain⟨b,o,rfl,hb',hcc⟩:=(hr.below hB).at_ (by have:=HN.out;simp;omega)
   have c0:=cell_at hcc (k:=k) (by rw[HN.out];exact hlt)
   have hm:=mem_at (l:=l) (i:=k) (by rw[HN.out];exact hlt)
   obtain⟨y,hy⟩:∃ y,l[k]! = y:=⟨_,rfl⟩
   rw[hy]at c0 hm
   have HY:=Lib.hid hy
   have HM:=Lib.hid hm
   have HC:=Lib.hid (fun W=>byd_any y W)
   obtain⟨q,hq⟩:∃ q,byd y=q:=⟨_,rfl⟩
   rw[hq]at HC
   have HV:=Lib.hid hq
   clear hcc hy hm hq
   cases q with
   | true =>
    have HQ:Hid (l.any byd=true):=Lib.hid (List.any_eq_true.2 ⟨y,HM.out,HV.out⟩)
    go_wp2_with(first|(go_at_call 274;refine (HC.out _).mono ?_;rintro e w1 ⟨rfl,hB1⟩)|fail)
    go_ret
    exact⟨k,rfl,by rw[HQ.out];exact decide_eq_true (by omega),upB hB hB1⟩
   | false =>
    go_wp2_with(first|(go_at_call 274;refine (HC.out _).mono ?_;rintro e w1 ⟨rfl,hB1⟩)|fail)
    go_roundg (n-(k+1))
    case measure=>omega
    case rel =>
     refine⟨k+1,by go_num,rfl,by omega,Lib.hid (fun j hj => ?_),upB hB hB1⟩
     by_cases hjk:j=k
     ·subst hjk;rw[HY.out];exact HV.out
     ·exact HNo.out j (by omega)
  ·obtain rfl:k=n:=by omega
   have hltz:¬ ((k:Nat):Int)<(k:Int):=by omega
   have HQ:Hid (l.any byd=false):=Lib.hid (by
    rw[List.any_eq_false]
    intro r h
    obtain⟨j,hj,e⟩:=List.getElem_of_mem h
    have:=HNo.out j (by have:=HN.out;omega)
    rw[getElem!_pos l j hj,e]at this
    rw[this]
    simp)
   go_wp2_with fail
   go_ret
   exact⟨-1,rfl,by rw[HQ.out];rfl,hB⟩
theorem Contains_bey(l:List Int)(A:Option Addr)(n c:Nat)(w0:World)(hn:l.length=n)(hn1:n<=1000000)(hr:Row w0 w0.heap.size A (cl .i32 l)):Calls Tryz.prog 90 #[.slice A n c,.func (.func 274) #[] #[]] w0 (Says (l.any byd) w0):=by
 have HI:=Lib.hid (Index_bey l A n c w0 hn hn1 hr)
 generalize l.any byd=q at HI ⊢
 clear hn hr
 go_enter Tryz.func90,Tryz.ntmps90
 go_wp2_with(first|(go_at_call 126;refine HI.out.mono ?_;rintro e w1 ⟨i,rfl,hi,hB1⟩)|fail)
 go_ret
 exact⟨by rw[<-hi];first|rfl|simp,hB1⟩
theorem Index_fbh(l:List Int)(A:Option Addr)(n c:Nat)(w0:World)(hn:l.length=n)(hn1:n<=1000000)(hr:Row w0 w0.heap.size A (cl .i32 l)):Calls Tryz.prog 126 #[.slice A n c,.func (.func 52) #[] #[]] w0 (PlaceB (l.any forb) w0):=by
 have HN:=Lib.hid hn
 clear hn
 go_enter Tryz.func126,Tryz.ntmps126
 go_wp2_with fail
 go_loopg [8] n (fun m s8 wr => ∃ k:Nat,s8 = .int .i64 (k:Int)/\m=n-k/\k<=n/\Hid (∀ j,j<k->forb l[j]! = false)/\Below w0.heap.size w0 wr)
 case atStart=>exact⟨0,rfl,rfl,Nat.zero_le _,Lib.hid (fun j hj=>by omega),Below.refl _ _⟩
 case round =>
  obtain⟨k,rfl,rfl,hk,HNo,hB⟩:=hrel
  by_cases hlt:k<n
  ·have hltz:(k:Int)<(n:Int):=by omega
   obtain⟨b,o,rfl,hb',hcc⟩:=(hr.below hB).at_ (by have:=HN.out;simp;omega)
   have c0:=cell_at hcc (k:=k) (by rw[HN.out];exact hlt)
   have hm:=mem_at (l:=l) (i:=k) (by rw[HN.out];exact hlt)
   obtain⟨y,hy⟩:∃ y,l[k]! = y:=⟨_,rfl⟩
   rw[hy]at c0 hm
   have HY:=Lib.hid hy
   have HM:=Lib.hid hm
   have HC:=Lib.hid (fun W=>ForbH_any y W)
   obtain⟨q,hq⟩:∃ q,forb y=q:=⟨_,rfl⟩
   rw[hq]at HC
   have HV:=Lib.hid hq
   clear hcc hy hm hq
   cases q with
   | true =>
    have HQ:Hid (l.any forb=true):=Lib.hid (List.any_eq_true.2 ⟨y,HM.out,HV.out⟩)
    go_wp2_with(first|(go_at_call 52;refine (HC.out _).mono ?_;rintro e w1 ⟨rfl,hB1⟩)|fail)
    go_ret
    exact⟨k,rfl,by rw[HQ.out];exact decide_eq_true (by omega),upB hB hB1⟩
   | false =>
    go_wp2_with(first|(go_at_call 52;refine (HC.out _).mono ?_;rintro e w1 ⟨rfl,hB1⟩)|fail)
    go_roundg (n-(k+1))
    case measure=>omega
    case rel =>
     refine⟨k+1,by go_num,rfl,by omega,Lib.hid (fun j hj => ?_),upB hB hB1⟩
     by_cases hjk:j=k
     ·subst hjk;rw[HY.out];exact HV.out
     ·exact HNo.out j (by omega)
  ·obtain rfl:k=n:=by omega
   have hltz:¬ ((k:Nat):Int)<(k:Int):=by omega
   have HQ:Hid (l.any forb=false):=Lib.hid (by
    rw[List.any_eq_false]
    intro r h
    obtain⟨j,hj,e⟩:=List.getElem_of_mem h
    have:=HNo.out j (by have:=HN.out;omega)
    rw[getElem!_pos l j hj,e]at this
    rw[this]
    simp)
   go_wp2_with fail
   go_ret
   exact⟨-1,rfl,by rw[HQ.out];rfl,hB⟩
theorem Contains_fbh(l:List Int)(A:Option Addr)(n c:Nat)(w0:World)(hn:l.length=n)(hn1:n<=1000000)(hr:Row w0 w0.heap.size A (cl .i32 l)):Calls Tryz.prog 90 #[.slice A n c,.func (.func 52) #[] #[]] w0 (Says (l.any forb) w0):=by
 have HI:=Lib.hid (Index_fbh l A n c w0 hn hn1 hr)
 generalize l.any forb=q at HI ⊢
 clear hn hr
 go_enter Tryz.func90,Tryz.ntmps90
 go_wp2_with(first|(go_at_call 126;refine HI.out.mono ?_;rintro e w1 ⟨i,rfl,hi,hB1⟩)|fail)
 go_ret
 exact⟨by rw[<-hi];first|rfl|simp,hB1⟩
def rgt (l:List Int):Bool:=(chk l false==0)&&(Ctx.chkC l==0)
theorem right_any(l:List Int)(A:Option Addr)(n c:Nat)(w:World)(hn:l.length=n)(hl:n<=4000)(hC:∀ x∈l,-2147483648<=x/\x<=2147483647)(hr:Row w w.heap.size A (cl .i32 l)):Calls Tryz.prog 244 #[.slice A n c] w (Says (rgt l) w):=by
 have HL:=Lib.hid (Check_any l false A n c w hn hl hC hr)
 have HX:=Lib.hid (fun W (h:Below w.heap.size w W)=>Ctx.Check_any l A n c W hn (by omega) hC (((hr.below h)).mono h.size))
 have HR:Hid (rgt l=((chk l false==0)&&(Ctx.chkC l==0))):=Lib.hid rfl
 obtain⟨x,hx⟩:∃ x,chk l false=x:=⟨_,rfl⟩
 obtain⟨y,hy⟩:∃ y,Ctx.chkC l=y:=⟨_,rfl⟩
 rw[hx]at HL HR
 rw[hy]at HX HR
 rw[HR.out]
 clear hx hy HR hr hC hn
 unfold Tells at HL
 unfold Ctx.Tells at HX
 by_cases h0:x=0
 ·subst h0
  go_enter Tryz.func244,Tryz.ntmps244
  go_wp2_with(first|(go_at_call 276;refine HL.out.mono ?_;rintro e w1 ⟨rfl,hB1⟩)|(go_at_call 277;refine (HX.out _ hB1).mono ?_;rintro e w2 ⟨rfl,hB2⟩)|fail)
  go_ret
  exact⟨by first|rfl|simp,upB hB1 hB2⟩
 ·have hx0:(x==0)=false:=beq_eq_false_iff_ne.2 h0
  rw[hx0]
  go_enter Tryz.func244,Tryz.ntmps244
  go_wp2_with(first|(go_at_call 276;refine HL.out.mono ?_;rintro e w1 ⟨rfl,hB1⟩)|fail)
  go_ret
  exact⟨by first|rfl|simp,hB1⟩
theorem str_beq(s t:ByteArray):(s.toList==t.toList)=decide (dl s=dl t):=by
 rw[ByteArray.toList_eq,ByteArray.toList_eq]
 by_cases h:s.data.toList=t.data.toList
 ·rw[decide_eq_true (show dl s=dl t from h),h];simp
 ·rw[decide_eq_false (show ¬ dl s=dl t from h)]
  exact beq_eq_false_iff_ne.2 h
theorem ext_take(s:ByteArray)(i:Nat):dl (s.extract 0 i)=(dl s).take i:=by simp[dl,ByteArray.data_extract]
def pfx (s p:List UInt8):Bool:=decide (s.take p.length=p)
theorem HasPrefix_any(s p:ByteArray)(w:World):Calls Tryz.prog 19 #[.string s,.string p] w (fun e w'=>e = .returned (.bool (pfx (dl s) (dl p)))/\w=w'):=by
 have hlp:(dl p).length=p.size:=by simp[dl]
 have hls:(dl s).length=s.size:=by simp[dl]
 have h1:∀ W,Calls Tryz.prog 63 #[.string s,.string p] W (fun e w'=>e = .returned (.bool (pfx (dl s) (dl p)))/\W=w'):=fun W=>by
  by_cases h:p.size<=s.size
  ·have hz:(p.size:Int)<=(s.size:Int):=by omega
   have hd:decide ((p.size:Int)<=(s.size:Int))=true:=decide_eq_true hz
   have hq:((s.extract 0 p.size).toList==p.toList)=pfx (dl s) (dl p):=by rw[str_beq,ext_take,pfx,hlp]
   have h0:(0:Int)<=(p.size:Int):=by omega
   have ht:((p.size:Int)).toNat=p.size:=by omega
   obtain⟨q,hqq⟩:∃ q,pfx (dl s) (dl p)=q:=⟨_,rfl⟩
   rw[hqq]at hq ⊢
   clear hqq hlp hls
   go_enter Tryz.func63,Tryz.ntmps63
   go_wp2_with fail
   go_ret
   exact⟨rfl,rfl⟩
  ·have hz:¬ (p.size:Int)<=(s.size:Int):=by omega
   have hd:decide ((p.size:Int)<=(s.size:Int))=false:=decide_eq_false hz
   have HE:Hid (pfx (dl s) (dl p)=false):=Lib.hid (decide_eq_false fun e=>by
    have:=congrArg List.length e
    rw[List.length_take,hlp,hls]at this
    omega)
   rw[HE.out]
   clear HE hlp hls
   go_enter Tryz.func63,Tryz.ntmps63
   go_wp2_with fail
   go_ret
   exact⟨rfl,rfl⟩
 have H:=Lib.hid h1
 obtain⟨q,hq⟩:∃ q,pfx (dl s) (dl p)=q:=⟨_,rfl⟩
 rw[hq]at H ⊢
 clear h1 hq hlp hls
 go_enter Tryz.func19,Tryz.ntmps19
 go_wp2_with(first|(go_at_call 63;refine (H.out _).mono ?_;rintro e w' ⟨rfl,rfl⟩)|fail)
 go_ret
 exact⟨rfl,rfl⟩
theorem conv_runes{w:World}{B:Nat}{A:Option Addr}{l:List Int}{n c:Nat}(hn:l.length=n)(hr:Row w B A (cl .i32 l)) :
  (convert 22 9 (.slice A n c)).run Tryz.prog w = .ok (.string (runesBytes l)) w:=by
 subst hn
 cases A with
 | none =>
  have:l=[]:=by
   rcases hr with h|⟨b,o,h,_⟩
   ·simpa[cl] using h
   ·cases h
  subst this
  exact run_convert_runes_nil w 22 9 21 0 c Tryz.underlying22 Tryz.underlying21 Tryz.underlying9
 | some a =>
  have:=run_convert_runes (P:=Tryz.prog) w 22 9 21 a l.length c l (Nat.le_refl _) Tryz.underlying22 Tryz.underlying21 Tryz.underlying9 (fun j hj=>by
   rcases hr with h|⟨b,o,h,_,hc⟩
   ·have:l=[]:=by simpa[cl] using h
    subst this
    simp at hj
   ·injection h with h
    subst h
    rw[Go.WideShapes.add_plain,hc j (by simpa[cl] using hj)]
    simp[cl,List.getElem?_eq_getElem hj])
  rw[List.take_length]at this
  exact this
def aL (l:List Int):Bool:=!(l.any byd)&&pfx (dl (runesBytes l)) [120,110,45,45]
theorem aLabel_any(l:List Int)(A:Option Addr)(n c:Nat)(w:World)(hn:l.length=n)(hl:n<=1000000)(hr:Row w w.heap.size A (cl .i32 l)):Calls Tryz.prog 242 #[.slice A n c] w (Says (aL l) w):=by
 have HB:=Lib.hid (Contains_bey l A n c w hn hl hr)
 have HCV:=Lib.hid (fun W (h:Below w.heap.size w W)=>conv_runes (c:=c) hn (hr.below h))
 have HP:=Lib.hid (fun W=>HasPrefix_any (runesBytes l) ⟨#[120,110,45,45]⟩ W)
 have HR:Hid (aL l=(!(l.any byd)&&pfx (dl (runesBytes l)) (dl ⟨#[120,110,45,45]⟩))):=Lib.hid rfl
 obtain⟨q,hq⟩:∃ q,l.any byd=q:=⟨_,rfl⟩
 obtain⟨p,hp⟩:∃ p,pfx (dl (runesBytes l)) (dl ⟨#[120,110,45,45]⟩)=p:=⟨_,rfl⟩
 obtain⟨s,hs⟩:∃ s,runesBytes l=s:=⟨_,rfl⟩
 rw[hq]at HB HR
 rw[hp]at HP HR
 rw[hs]at HP HCV
 rw[HR.out]
 clear hq hp hs HR hr hn
 cases q with
 | true =>
  go_enter Tryz.func242,Tryz.ntmps242
  go_wp2_with(first|(go_at_call 90;refine HB.out.mono ?_;rintro e w1 ⟨rfl,hB1⟩)|fail)
  go_ret
  exact⟨rfl,hB1⟩
 | false =>
  go_enter Tryz.func242,Tryz.ntmps242
  go_wp2_with(first|(go_at_call 90;refine HB.out.mono ?_;rintro e w1 ⟨rfl,hB1⟩;have hcv:=HCV.out w1 hB1)|(go_at_call 19;refine (HP.out _).mono ?_;rintro e w2 ⟨rfl,rfl⟩)|fail)
  go_ret
  exact⟨by first|rfl|simp,hB1⟩
end Go.Proofs.YtkibdkfdffkkfaaGreatDoor.Hst
