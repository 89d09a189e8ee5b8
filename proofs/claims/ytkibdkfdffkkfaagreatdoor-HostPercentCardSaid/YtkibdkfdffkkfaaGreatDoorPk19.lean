import Derived.Test.YtkibdkfdffkkfaaGreatDoorPk18
set_option maxRecDepth 100000
set_option maxHeartbeats 8000000
namespace Go.Proofs.YtkibdkfdffkkfaaGreatDoor
open Go.RowKit Norm Go.Shelf Go.Sort Go.Lib
theorem sm_one(w0:World)(blk off cap N:Nat)(l0:List C)(R:RowC w0 blk off l0)(P:List C)(x:C)(Y S:List C)(a m b:Nat)(ha:a=P.length)(hm:m=P.length+1)(hb:b=P.length+1+Y.length)(hY:Srt Y)
  (hN:N=l0.length) (hl:(P++[x]++Y++S).length=N) (h6:N<=1000000) (W:World) (hS:SWL w0 blk off (P++[x]++Y++S) W) :
  Calls Tryz.prog 369 #[.slice (some ⟨blk,off,none⟩) N cap,.int .i64 a,.int .i64 m,.int .i64 b,.func (.func 291) #[] #[]] W (SwOk w0 blk off (P++isort ([x]++Y)++S)):=by
 have mixed:Tryz.prog.follows .mixedOrders=true:=by kernel_rfl
 have HS0:=Lib.hid hS
 obtain⟨F,hF⟩:∃ F,P++isort ([x]++Y)++S=F:=⟨_,rfl⟩
 have HF:=Lib.hid hF
 rw[hF]
 clear hF
 have hln:a+1+Y.length+S.length=N:=by simp at hl;omega
 have HL:=Lib.hid hl
 have HNN:=Lib.hid hN
 have HP:=Lib.hid ha
 have hgx:(P++[x]++Y++S).toArray[a]! = x:=by rw[ha];exact at_X (X:=[x]) (i:=0) (by simp)
 have hgy:∀ i,i<Y.length->(P++[x]++Y++S).toArray[m+i]! = Y[i]!:=fun i hi=>by rw[hm];exact at_Y (X:=[x]) hi
 have HGX:=Lib.hid hgx
 have HGY:=Lib.hid hgy
 have e1:(m:Int)-(a:Int)=1:=by omega
 have hm':m=a+1:=by omega
 have hb':b=m+Y.length:=by omega
 have HM:=Lib.hid hm'
 have HB:=Lib.hid hb'
 clear hm' hb'
 clear hS hl hN hgx hgy ha hm hb
 go_enter Tryz.func369,Tryz.ntmps369
 go_wp2
 clear e1
 go_loopg [10,11] Y.length (fun k s10 s11 wr => ∃ i j:Nat,s10 = .int .i64 (i:Int)/\s11 = .int .i64 (j:Int)/\k=j-i/\m<=i/\i<=j/\j<=b/\Hid (m<i->Y[i-m-1]!.2<x.2)/\Hid (j<b->x.2<=Y[j-m]!.2)/\Hid (SWL w0 blk off (P++[x]++Y++S) wr))
 case atStart=>exact⟨m,b,rfl,rfl,by have:=HB.out;omega,Nat.le_refl _,by have:=HB.out;omega,Nat.le_refl _,Lib.hid (fun h=>absurd h (by omega)),Lib.hid (fun h=>absurd h (by omega)),HS0⟩
 case round =>
  obtain⟨i,j,rfl,rfl,rfl,hi,hij,hj,H1,H2,HS⟩:=hrel
  clear HS0
  by_cases hlt:i<j
  ·have hltz:(i:Int)<(j:Int):=by omega
   obtain⟨h,hh⟩:∃ h,h=(i+j)/2:=⟨_,rfl⟩
   have hhi:i<=h:=by omega
   have hhj:h<j:=by omega
   have hcast:((i:Int)+(j:Int))/2=(h:Int):=by omega
   have bN:=HB.out
   have aN:=HM.out
   have hhN:h<N:=by omega
   have haN:a<N:=by omega
   have sN:i+j<=2000000:=by omega
   clear hh
   go_upto_region 4 with fail
   go_cut [12] (fun s12 wx=>s12 = .int .i64 (h:Int)/\wx=wr)
   case first =>
    clear bN aN
    go_wp2_with fail
    go_meet
    exact⟨by first|rfl|go_num,rfl⟩
   case rest =>
    obtain⟨rfl,hwc⟩:=hcut
    rw[hwc]
    clear hwc hcast
    have hlen:(P++[x]++Y++S).length=l0.length:=HL.out.trans HNN.out
    obtain⟨y,hy⟩:∃ y,Y[h-m]! = y:=⟨_,rfl⟩
    have hgy:(P++[x]++Y++S).toArray[h]! = y:=by
     have:=HGY.out (h-m) (by omega)
     rw[show m+(h-m)=h from by omega,hy]at this
     exact this
    obtain⟨c0,c1⟩:=SWL.cells_g HS.out R hlen (i:=h) (by rw[HL.out];omega) hgy
    obtain⟨d0,d1⟩:=SWL.cells_g HS.out R hlen (i:=a) (by rw[HL.out];omega) HGX.out
    have hcc:=cmp_call y x wr
    have HY:=Lib.hid hy
    have hhz:(h:Int)<(N:Int):=by omega
    have haz:(a:Int)<(N:Int):=by omega
    have HS2:Hid (∀ n os,SWL w0 blk off (P++[x]++Y++S) (grow (wr.drewN n) os)):=Lib.hid (fun n os=>HS.out.grown n os)
    clear hy hgy hlen bN aN HS
    by_cases hlt2:y.2<x.2
    ·have hz:=cmpZ_lt.2 hlt2
     go_wp2_with fail
     go_quiet_grown (first|(go_at_call 291;exact hcc _ _))
     go_wp2_with fail
     go_roundg (j-(h+1))
     case measure=>omega
     case rel=>exact⟨h+1,j,by go_num,rfl,rfl,by omega,by omega,hj,Lib.hid (fun _=>by rw[show h+1-m-1=h-m from by omega,HY.out];exact hlt2),H2,Lib.hid (HS2.out _ _)⟩
    ·have hz:¬ cmpZ y.2 x.2<0:=fun h=>hlt2 (cmpZ_lt.1 h)
     go_wp2_with fail
     go_quiet_grown (first|(go_at_call 291;exact hcc _ _))
     go_wp2_with fail
     go_roundg (h-i)
     case measure=>omega
     case rel=>exact⟨i,h,rfl,rfl,rfl,hi,by omega,by omega,H1,Lib.hid (fun _=>by rw[HY.out];omega),Lib.hid (HS2.out _ _)⟩
  ·obtain rfl:i=j:=by omega
   have hltz:¬ ((i:Nat):Int)<(i:Int):=by omega
   have bN:=HB.out
   have aN:=HM.out
   obtain⟨e,he⟩:∃ e,e=i-m:=⟨_,rfl⟩
   have heY:e<=Y.length:=by omega
   have HMG:Hid (P++isort ([x]++Y)++S=P++Y.take e++[x]++Y.drop e++S):=Lib.hid (by
    rw[merge_one hY heY (fun h=>by have:=H1.out (by omega);rw[he];exact this) (fun h=>by have:=H2.out (by omega);rw[he];exact this)]
    simp only[List.append_assoc])
   have hie:i=a+1+e:=by omega
   have HSE:Hid (SWL w0 blk off (P++Y.take 0++[x]++Y.drop 0++S) wr):=Lib.hid (by rw[List.take_zero,List.append_nil,List.drop_zero];exact HS.out)
   have heN:a+1+e<=N:=by omega
   have HIE:=Lib.hid hie
   clear bN aN he H1 H2 HS HM HB HL hltz hi hij hj HGX HGY hlt hie
   have hiz:((i:Int)<(i:Int))=False:=by simp
   go_wp2_with fail
   clear hiz
   go_loopg [13] e (fun k s13 wr => ∃ t c:Nat,s13 = .int .i64 (c:Int)/\c=a+t/\k=e-t/\t<=e/\Hid (SWL w0 blk off (P++Y.take t++[x]++Y.drop t++S) wr))
   case atStart=>exact⟨0,a,rfl,rfl,rfl,Nat.zero_le _,HSE⟩
   case round =>
    obtain⟨t,c,rfl,hc,rfl,ht,HS⟩:=hrel
    clear HSE
    have hie:=HIE.out
    by_cases hlt:t<e
    ·have hltz:(c:Int)<(i:Int)-1:=by omega
     have hy:Y.drop t=Y[t]::Y.drop (t+1):=List.drop_eq_getElem_cons (by omega)
     have hy2:Y.take (t+1)=Y.take t++[Y[t]]:=by rw[List.take_add_one,List.getElem?_eq_getElem (by omega)];rfl
     obtain⟨y,hyy⟩:∃ y,Y[t]=y:=⟨_,rfl⟩
     rw[hyy]at hy hy2
     have q1:P++Y.take t++[x]++Y.drop t++S=(P++Y.take t)++x::[]++y::(Y.drop (t+1)++S):=by rw[hy];simp
     have q2:P++Y.take (t+1)++[x]++Y.drop (t+1)++S=(P++Y.take t)++y::[]++x::(Y.drop (t+1)++S):=by rw[hy2];simp
     have la:(P++Y.take t).length=c:=by have:=HP.out;simp;omega
     have hS:=HS.out
     rw[q1]at hS
     have ll:((P++Y.take t)++x::[]++y::(Y.drop (t+1)++S)).length=N:=by have:=HP.out;simp;omega
     have HQ2:=Lib.hid q2
     generalize P++Y.take t=A at hS la ll HQ2
     generalize Y.drop (t+1)++S=D at hS ll HQ2
     have g1:(A++x::[]++y::D).toArray[c]! = x:=by rw[<-la,List.append_assoc,List.cons_append];exact lget A x _
     have g2:(A++x::[]++y::D).toArray[c+1]! = y:=by rw[<-la];exact lget2 A x [] y D
     have g3:swp (A++x::[]++y::D).toArray c (c+1)=(A++y::[]++x::D).toArray:=by rw[<-la];exact lswp A x [] y D
     have hNN:=HNN.out
     obtain⟨c0,c1,f0,f1⟩:=hS.cells R (by omega) (i:=c) (by omega)
     obtain⟨d0,d1,k0,k1⟩:=hS.cells R (by omega) (i:=c+1) (by omega)
     rw[g1]at c0 c1
     rw[g2]at d0 d1
     have HSW:=Lib.hid (hS.swapped R (i:=c) (j:=c+1) (by omega) (by omega) g1 g2 g3)
     have HC:=Lib.hid hc
     have iN:i<=N:=by omega
     have i1:1<=i:=by omega
     have wi:IntKind.i64.wrap ((i:Int)-1)=(i:Int)-1:=by rw[IntKind.wrap_i64];omega
     have bc:(c:Int)<(N:Int):=by omega
     have bc1:(c:Int)+1<(N:Int):=by omega
     have ec:((c:Int)+1).toNat=c+1:=by omega
     have pc:(0:Int)<=(c:Int)+1:=by omega
     have wc1:IntKind.i64.wrap ((c:Int)+1)=(c:Int)+1:=by rw[IntKind.wrap_i64];omega
     clear q1 q2 hy hy2 hyy HS hS g1 g2 g3 hNN hie la ll hc
     go_wp2_with fail
     go_big_region_o
     go_wp2_with fail
     go_roundg (e-(t+1))
     case measure=>omega
     case rel=>exact⟨t+1,c+1,by go_num,by have:=HC.out;omega,rfl,by omega,Lib.hid (by rw[HQ2.out];exact HSW.out)⟩
    ·obtain rfl:t=e:=by omega
     have hltz:¬ (c:Int)<(i:Int)-1:=by omega
     have iN:i<=N:=by omega
     have wi:IntKind.i64.wrap ((i:Int)-1)=(i:Int)-1:=by rw[IntKind.wrap_i64];omega
     go_wp2_with fail
     go_end0
     exact⟨rfl,by rw[<-HF.out,HMG.out];exact HS.out⟩
theorem lswp2(A:List C)(x:C)(B:List C)(y:C)(D:List C):swp (A++x::B++y::D).toArray (A.length+1+B.length) A.length=(A++y::B++x::D).toArray:=by
 have e1:(A++x::B++y::D).toArray[A.length]! = x:=by rw[List.append_assoc,List.cons_append];exact lget A x _
 have e2:=lget2 A x B y D
 apply Array.ext'
 unfold swp
 rw[e1,e2]
 have:((A++x::B++y::D).set (A.length+1+B.length) x).set A.length y=A++y::B++x::D:=by
  rw[List.append_assoc,List.cons_append,List.set_append_right _ _ (by omega),show A.length+1+B.length-A.length=B.length+1 from by omega,List.set_cons_succ,List.set_append_right _ _ (Nat.le_refl _),Nat.sub_self,List.set_cons_zero,List.set_append_right _ _ (Nat.le_refl _),Nat.sub_self,List.set_cons_zero]
  simp
 simpa using this
theorem sm_last(w0:World)(blk off cap N:Nat)(l0:List C)(R:RowC w0 blk off l0)(P:List C)(X:List C)(y:C)(S:List C)(a m b n1:Nat)(ha:a=P.length)(hn1:X.length=n1)(h1:1<n1)(hm:m=P.length+n1)(hb:b=P.length+n1+1)(hX:Srt X)
  (hN:N=l0.length) (hl:(P++X++[y]++S).length=N) (h6:N<=1000000) (W:World) (hS:SWL w0 blk off (P++X++[y]++S) W) :
  Calls Tryz.prog 369 #[.slice (some ⟨blk,off,none⟩) N cap,.int .i64 a,.int .i64 m,.int .i64 b,.func (.func 291) #[] #[]] W (SwOk w0 blk off (P++isort (X++[y])++S)):=by
 have mixed:Tryz.prog.follows .mixedOrders=true:=by kernel_rfl
 have HS0:=Lib.hid hS
 obtain⟨F,hF⟩:∃ F,P++isort (X++[y])++S=F:=⟨_,rfl⟩
 have HF:=Lib.hid hF
 rw[hF]
 clear hF
 have hln:a+n1+1+S.length=N:=by simp at hl;omega
 have HL:=Lib.hid hl
 have HNN:=Lib.hid hN
 have HP:=Lib.hid ha
 have HXL:=Lib.hid hn1
 have hgy:(P++X++[y]++S).toArray[m]! = y:=by rw[hm,<-hn1];exact at_Y (Y:=[y]) (i:=0) (by simp)
 have hgx:∀ i,i<n1->(P++X++[y]++S).toArray[a+i]! = X[i]!:=fun i hi=>by rw[ha];exact at_X (by omega)
 have HGX:=Lib.hid hgx
 have HGY:=Lib.hid hgy
 have e1:(m:Int)-(a:Int)=(n1:Int):=by omega
 have n1b:((n1:Int)==1)=false:=by simp;omega
 have n1p:¬ (n1:Int)=1:=by omega
 have e2:(b:Int)-(m:Int)=1:=by omega
 have hm':m=a+n1:=by omega
 have HM:=Lib.hid hm'
 have hmN:m<N:=by omega
 have haN:a<N:=by omega
 have hbN:b<=N:=by omega
 clear hS hl hN hgx hgy ha hm hb hm' hn1
 go_enter Tryz.func369,Tryz.ntmps369
 go_wp2
 clear e1 e2 n1b n1p
 go_loopg [14,15] n1 (fun k s14 s15 wr => ∃ i j:Nat,s14 = .int .i64 (i:Int)/\s15 = .int .i64 (j:Int)/\k=j-i/\a<=i/\i<=j/\j<=m/\Hid (a<i->X[i-a-1]!.2<=y.2)/\Hid (j<m->y.2<X[j-a]!.2)/\Hid (SWL w0 blk off (P++X++[y]++S) wr))
 case atStart=>exact⟨a,m,rfl,rfl,by have:=HM.out;omega,Nat.le_refl _,by have:=HM.out;omega,Nat.le_refl _,Lib.hid (fun h=>absurd h (by omega)),Lib.hid (fun h=>absurd h (by omega)),HS0⟩
 case round =>
  obtain⟨i,j,rfl,rfl,rfl,hi,hij,hj,H1,H2,HS⟩:=hrel
  clear HS0
  by_cases hlt:i<j
  ·have hltz:(i:Int)<(j:Int):=by omega
   obtain⟨h,hh⟩:∃ h,h=(i+j)/2:=⟨_,rfl⟩
   have hhi:i<=h:=by omega
   have hhj:h<j:=by omega
   have hcast:((i:Int)+(j:Int))/2=(h:Int):=by omega
   have aN:=HM.out
   have hhN:h<N:=by omega
   have sN:i+j<=2000000:=by omega
   clear hh
   go_upto_region 16 with fail
   go_cut [16] (fun s16 wx=>s16 = .int .i64 (h:Int)/\wx=wr)
   case first =>
    clear aN
    go_wp2_with fail
    go_meet
    exact⟨by first|rfl|go_num,rfl⟩
   case rest =>
    obtain⟨rfl,hwc⟩:=hcut
    rw[hwc]
    clear hwc hcast
    have hlen:(P++X++[y]++S).length=l0.length:=HL.out.trans HNN.out
    obtain⟨x,hx⟩:∃ x,X[h-a]! = x:=⟨_,rfl⟩
    have hgx:(P++X++[y]++S).toArray[h]! = x:=by
     have:=HGX.out (h-a) (by omega)
     rw[show a+(h-a)=h from by omega,hx]at this
     exact this
    obtain⟨c0,c1⟩:=SWL.cells_g HS.out R hlen (i:=h) (by rw[HL.out];omega) hgx
    obtain⟨d0,d1⟩:=SWL.cells_g HS.out R hlen (i:=m) (by rw[HL.out];omega) HGY.out
    have hcc:=cmp_call y x wr
    have HX:=Lib.hid hx
    have hhz:(h:Int)<(N:Int):=by omega
    have hmz:(m:Int)<(N:Int):=by omega
    have HS2:Hid (∀ n os,SWL w0 blk off (P++X++[y]++S) (grow (wr.drewN n) os)):=Lib.hid (fun n os=>HS.out.grown n os)
    clear hx hgx hlen aN HS
    by_cases hlt2:y.2<x.2
    ·have hz:=cmpZ_lt.2 hlt2
     have hzb:decide (cmpZ y.2 x.2<0)=true:=decide_eq_true hz
     go_wp2_with fail
     go_quiet_grown (first|(go_at_call 291;exact hcc _ _))
     go_wp2_with fail
     go_roundg (h-i)
     case measure=>omega
     case rel=>exact⟨i,h,rfl,rfl,rfl,hi,by omega,by omega,H1,Lib.hid (fun _=>by rw[HX.out];exact hlt2),Lib.hid (HS2.out _ _)⟩
    ·have hz:¬ cmpZ y.2 x.2<0:=fun h=>hlt2 (cmpZ_lt.1 h)
     have hzb:decide (cmpZ y.2 x.2<0)=false:=decide_eq_false hz
     have hzc:0<=cmpZ y.2 x.2:=by omega
     go_wp2_with fail
     go_quiet_grown (first|(go_at_call 291;exact hcc _ _))
     go_wp2_with fail
     go_roundg (j-(h+1))
     case measure=>omega
     case rel=>exact⟨h+1,j,by go_num,rfl,rfl,by omega,by omega,hj,Lib.hid (fun _=>by rw[show h+1-a-1=h-a from by omega,HX.out];omega),H2,Lib.hid (HS2.out _ _)⟩
  ·obtain rfl:i=j:=by omega
   have hltz:¬ ((i:Nat):Int)<(i:Int):=by omega
   have aN:=HM.out
   have xN:=HXL.out
   obtain⟨e,he⟩:∃ e,e=i-a:=⟨_,rfl⟩
   have heX:e<=n1:=by omega
   have HMG:Hid (P++isort (X++[y])++S=P++X.take e++[y]++X.drop e++S):=Lib.hid (by
    rw[merge_last (k:=e) hX (by omega) (fun h=>by have:=H2.out (by omega);rw[he];exact this) (fun h=>by have:=H1.out (by omega);rw[he];exact this)]
    simp only[List.append_assoc])
   have hie:i=a+e:=by omega
   have HSE:Hid (SWL w0 blk off (P++X.take n1++[y]++X.drop n1++S) wr):=Lib.hid (by rw[List.take_of_length_le (by omega),List.drop_eq_nil_of_le (by omega),List.append_nil];exact HS.out)
   have HIE:=Lib.hid hie
   clear he H1 H2 HS HL hi hij hj HGX HGY hlt hie aN xN
   go_wp2_with fail
   go_loopg [17] (n1-e) (fun k s17 wr => ∃ q c:Nat,s17 = .int .i64 (c:Int)/\c=a+q/\k=q-e/\e<=q/\q<=n1/\Hid (SWL w0 blk off (P++X.take q++[y]++X.drop q++S) wr))
   case atStart=>exact⟨n1,m,rfl,HM.out,rfl,heX,Nat.le_refl _,HSE⟩
   case round =>
    obtain⟨q,c,rfl,hc,rfl,hq,hqn,HS⟩:=hrel
    clear HSE
    have hie:=HIE.out
    by_cases hlt:e<q
    ·obtain⟨q,rfl⟩:∃ q',q=q'+1:=⟨q-1,by omega⟩
     obtain⟨c,rfl⟩:∃ c',c=c'+1:=⟨c-1,by omega⟩
     have hltz:(i:Int)<(c:Int)+1:=by omega
     have xN:=HXL.out
     have hx:X.drop q=X[q]::X.drop (q+1):=List.drop_eq_getElem_cons (by omega)
     have hx2:X.take (q+1)=X.take q++[X[q]]:=by rw[List.take_add_one,List.getElem?_eq_getElem (by omega)];rfl
     obtain⟨x,hxx⟩:∃ x,X[q]=x:=⟨_,rfl⟩
     rw[hxx]at hx hx2
     have q1:P++X.take (q+1)++[y]++X.drop (q+1)++S=(P++X.take q)++x::[]++y::(X.drop (q+1)++S):=by rw[hx2];simp
     have q2:P++X.take q++[y]++X.drop q++S=(P++X.take q)++y::[]++x::(X.drop (q+1)++S):=by rw[hx];simp
     have la:(P++X.take q).length=c:=by have:=HP.out;simp;omega
     have hS:=HS.out
     rw[q1]at hS
     have ll:((P++X.take q)++x::[]++y::(X.drop (q+1)++S)).length=N:=by have:=HP.out;simp;omega
     obtain⟨LQ,hLQ⟩:∃ LQ,P++X.take q++[y]++X.drop q++S=LQ:=⟨_,rfl⟩
     have HLQ:=Lib.hid hLQ
     rw[hLQ]at q2
     have HQ2:=Lib.hid q2
     clear hLQ
     generalize P++X.take q=A at hS la ll HQ2
     generalize X.drop (q+1)++S=D at hS ll HQ2
     have g1:(A++x::[]++y::D).toArray[c]! = x:=by rw[<-la,List.append_assoc,List.cons_append];exact lget A x _
     have g2:(A++x::[]++y::D).toArray[c+1]! = y:=by rw[<-la];exact lget2 A x [] y D
     have g3:swp (A++x::[]++y::D).toArray (c+1) c=(A++y::[]++x::D).toArray:=by rw[<-la];exact lswp2 A x [] y D
     have hNN:=HNN.out
     obtain⟨c0,c1,f0,f1⟩:=hS.cells R (by omega) (i:=c) (by omega)
     obtain⟨d0,d1,k0,k1⟩:=hS.cells R (by omega) (i:=c+1) (by omega)
     rw[g1]at c0 c1
     rw[g2]at d0 d1
     have HSW:=Lib.hid (hS.swapped R (i:=c+1) (j:=c) (by omega) (by omega) g2 g1 g3)
     have HC:=Lib.hid hc
     have bc:(c:Int)<(N:Int):=by omega
     have bc1:(c:Int)+1<(N:Int):=by omega
     have ec:((c:Int)+1).toNat=c+1:=by omega
     have pc:(0:Int)<=(c:Int)+1:=by omega
     have pc0:(0:Int)<=(c:Int):=by omega
     have wc1:IntKind.i64.wrap (c:Int)=(c:Int):=by rw[IntKind.wrap_i64];omega
     clear q1 q2 hx hx2 hxx HS hS g1 g2 g3 hNN hie la ll hc xN
     go_wp2_with fail
     go_big_region_o
     go_wp2_with fail
     go_roundg (q-e)
     case measure=>omega
     case rel=>exact⟨q,c,by go_num,by have:=HC.out;omega,rfl,by omega,by omega,Lib.hid (by rw[HLQ.out,HQ2.out];exact HSW.out)⟩
    ·obtain rfl:q=e:=by omega
     have hltz:¬ (i:Int)<(c:Int):=by omega
     go_wp2_with fail
     go_end0
     exact⟨rfl,by rw[<-HF.out,HMG.out];exact HS.out⟩
def SmOk (w0:World) (blk off cap N k:Nat):Prop:=∀ (P X Y S:List C) (a m b:Nat),X.length+Y.length<k->a=P.length->m=P.length+X.length->b=P.length+X.length+Y.length->0<X.length->0<Y.length->Srt X->Srt Y->(P++X++Y++S).length=N->∀ W,SWL w0 blk off (P++X++Y++S) W ->
 Calls Tryz.prog 369 #[.slice (some ⟨blk,off,none⟩) N cap,.int .i64 a,.int .i64 m,.int .i64 b,.func (.func 291) #[] #[]] W (SwOk w0 blk off (P++isort (X++Y)++S))
theorem sm_rec(w0:World)(blk off cap N:Nat)(l0:List C)(R:RowC w0 blk off l0)(P X Y S:List C)(a m b n1 n2:Nat)(ha:a=P.length)(hn1:X.length=n1)(hn2:Y.length=n2)(h1:1<n1)(h2:1<n2)(hm:m=a+n1)(hb:b=m+n2)(hX:Srt X)(hY:Srt Y)
  (hN:N=l0.length) (hl:(P++X++Y++S).length=N) (h6:N<=1000000) (IH:SmOk w0 blk off cap N (n1+n2)) (W:World) (hS:SWL w0 blk off (P++X++Y++S) W) :
  Calls Tryz.prog 369 #[.slice (some ⟨blk,off,none⟩) N cap,.int .i64 a,.int .i64 m,.int .i64 b,.func (.func 291) #[] #[]] W (SwOk w0 blk off (P++isort (X++Y)++S)):=by
 have mixed:Tryz.prog.follows .mixedOrders=true:=by kernel_rfl
 have HS0:=Lib.hid hS
 obtain⟨F,hF⟩:∃ F,P++isort (X++Y)++S=F:=⟨_,rfl⟩
 have HF:=Lib.hid hF
 rw[hF]
 clear hF
 have hln:a+n1+n2+S.length=N:=by simp at hl;omega
 obtain⟨L,hLE⟩:∃ L,P++X++Y++S=L:=⟨_,rfl⟩
 have HLE:=Lib.hid hLE
 rw[hLE]at HS0 hl
 have HL:=Lib.hid hl
 have HNN:=Lib.hid hN
 have HP:=Lib.hid ha
 have HXL:=Lib.hid hn1
 have HYL:=Lib.hid hn2
 have HIH:=Lib.hid IH
 have HGX:Hid (∀ i,i<n1->L.toArray[a+i]! = X[i]!):=Lib.hid (fun i hi=>by rw[<-HLE.out,ha];exact at_X (by omega))
 have HGY:Hid (∀ i,i<n2->L.toArray[m+i]! = Y[i]!):=Lib.hid (fun i hi=>by rw[<-HLE.out,hm,ha,<-hn1];exact at_Y (by omega))
 have e1:(m:Int)-(a:Int)=(n1:Int):=by omega
 have n1b:((n1:Int)==1)=false:=by simp;omega
 have n1p:¬ (n1:Int)=1:=by omega
 have e2:(b:Int)-(m:Int)=(n2:Int):=by omega
 have n2b:((n2:Int)==1)=false:=by simp;omega
 have n2p:¬ (n2:Int)=1:=by omega
 have HM:=Lib.hid hm
 have HB:=Lib.hid hb
 have hmN:m<N:=by omega
 have haN:a<N:=by omega
 have hbN:b<=N:=by omega
 obtain⟨mid,hmid⟩:∃ mid,mid=(a+b)/2:=⟨_,rfl⟩
 have hcast:((a:Int)+(b:Int))/2=(mid:Int):=by omega
 have hma:a<mid:=by omega
 have hmb:mid<b:=by omega
 obtain⟨n,hn⟩:∃ n,n=mid+m:=⟨_,rfl⟩
 obtain⟨p,hp⟩:∃ p,n=p+1:=⟨n-1,by omega⟩
 have HMID:=Lib.hid hmid
 have HNM:=Lib.hid hn
 have HPP:=Lib.hid hp
 obtain⟨s0,r0,hsr⟩:∃ s0 r0:Nat,(mid<m/\s0+b=n/\r0=mid)∨(m<=mid/\s0=a/\r0=m):=by
  by_cases h:mid<m
  ·exact⟨n-b,mid,.inl ⟨h,by omega,rfl⟩⟩
  ·exact⟨a,m,.inr ⟨by omega,rfl,rfl⟩⟩
 have HSR:=Lib.hid hsr
 have hs0:s0<=r0:=by omega
 have hr0:r0<=N:=by omega
 clear hS hl hN ha hm hb hn1 hn2 IH hmid hLE
 go_enter Tryz.func369,Tryz.ntmps369
 go_upto_region 24 with fail
 go_cut [18] from 129 to 134 (fun s18 wx=>s18 = .int .i64 (mid:Int)/\wx=W)
 case first =>
  clear hn hp hsr
  go_wp2_with fail
  go_meet
  exact⟨by first|rfl|go_num,rfl⟩
 case rest =>
  obtain⟨rfl,hwc⟩:=hcut
  rw[hwc]
  clear hwc hcast e1 e2 n1b n1p n2b n2p
  have en:(mid:Int)+(m:Int)=(n:Int):=by omega
  have ep:(n:Int)-1=(p:Int):=by omega
  clear hn hp
  go_upto_if 140 with fail
  go_cut [20,21] from 138 to 146 (fun s20 s21 wx=>s20 = .int .i64 (s0:Int)/\s21 = .int .i64 (r0:Int)/\wx=W)
  case first =>
   rcases hsr with ⟨q1,q2,q3⟩|⟨q1,q2,q3⟩
   ·have z:(mid:Int)<(m:Int):=by omega
    have es:(n:Int)-(b:Int)=(s0:Int):=by omega
    have Q3:=Lib.hid q3
    clear q2 q3
    go_wp2_with fail
    go_meet
    exact⟨rfl,by rw[Q3.out],rfl⟩
   ·have z:¬ (mid:Int)<(m:Int):=by omega
    have Q2:=Lib.hid q2
    have Q3:=Lib.hid q3
    clear q2 q3
    go_wp2_with fail
    go_meet
    exact⟨by rw[Q2.out],by rw[Q3.out],rfl⟩
  case rest =>
   obtain⟨rfl,rfl,hwc⟩:=hcut
   rw[hwc]
   clear hwc hsr
   go_wp2_with fail
   clear en ep
   go_loopg [20,21] (r0-s0) (fun k s20 s21 wr => ∃ i j:Nat,s20 = .int .i64 (i:Int)/\s21 = .int .i64 (j:Int)/\k=j-i/\s0<=i/\i<=j/\j<=r0/\Hid (s0<i->L.toArray[i-1]!.2<=L.toArray[p-(i-1)]!.2)/\Hid (j<r0->L.toArray[p-j]!.2<L.toArray[j]!.2)/\Hid (SWL w0 blk off L wr))
   case atStart=>exact⟨s0,r0,rfl,rfl,rfl,Nat.le_refl _,hs0,Nat.le_refl _,Lib.hid (fun h=>absurd h (by omega)),Lib.hid (fun h=>absurd h (by omega)),HS0⟩
   case round =>
    obtain⟨i,j,rfl,rfl,rfl,hi,hij,hj,H1,H2,HS⟩:=hrel
    clear HS0
    by_cases hlt:i<j
    ·have hltz:(i:Int)<(j:Int):=by omega
     obtain⟨c,hc⟩:∃ c,c=(i+j)/2:=⟨_,rfl⟩
     have hci:i<=c:=by omega
     have hcj:c<j:=by omega
     have hcast:((i:Int)+(j:Int))/2=(c:Int):=by omega
     have hcN:c<N:=by omega
     have sN:i+j<=2000000:=by omega
     obtain⟨d,hd⟩:∃ d,d=p-c:=⟨_,rfl⟩
     have hdd:(p:Int)-(c:Int)=(d:Int)/\d<N:=by
      have g1:=HSR.out
      have g2:=HNM.out
      have g3:=HPP.out
      have g4:=HM.out
      have g5:=HB.out
      have g6:=HMID.out
      omega
     clear hc
     go_upto_region 34 with fail
     go_cut [23] from 149 to 174 (fun s23 wx=>s23 = .int .i64 (c:Int)/\wx=wr)
     case first =>
      clear hdd hd
      go_wp2_with fail
      go_meet
      exact⟨by first|rfl|go_num,rfl⟩
     case rest =>
      obtain⟨rfl,hwc⟩:=hcut
      rw[hwc]
      clear hwc hcast
      obtain⟨hpc,hdN⟩:=hdd
      have hlen:L.length=l0.length:=HL.out.trans HNN.out
      obtain⟨x,hx⟩:∃ x,L.toArray[d]! = x:=⟨_,rfl⟩
      obtain⟨y,hy⟩:∃ y,L.toArray[c]! = y:=⟨_,rfl⟩
      obtain⟨c0,c1⟩:=SWL.cells_g HS.out R hlen (i:=d) (by rw[HL.out];omega) hx
      obtain⟨d0,d1⟩:=SWL.cells_g HS.out R hlen (i:=c) (by rw[HL.out];omega) hy
      have hcc:=cmp_call x y wr
      have HX2:=Lib.hid hx
      have HY2:=Lib.hid hy
      have HD:=Lib.hid hd
      have hdz:(d:Int)<(N:Int):=by omega
      have hdw:IntKind.i64.wrap (d:Int)=(d:Int):=by rw[IntKind.wrap_i64];omega
      have hd0:(0:Int)<=(d:Int):=by omega
      have hcz:(c:Int)<(N:Int):=by omega
      have HS2:Hid (∀ n os,SWL w0 blk off L (grow (wr.drewN n) os)):=Lib.hid (fun n os=>HS.out.grown n os)
      clear hx hy hlen HS hd
      by_cases hlt2:x.2<y.2
      ·have hz:=cmpZ_lt.2 hlt2
       have hzb:decide (cmpZ x.2 y.2<0)=true:=decide_eq_true hz
       go_wp2_with fail
       go_quiet_grown (first|(go_at_call 291;exact hcc _ _))
       go_wp2_with fail
       go_roundg (c-i)
       case measure=>omega
       case rel=>exact⟨i,c,rfl,rfl,rfl,hi,by omega,by omega,H1,Lib.hid (fun _=>by rw[<-HD.out,HX2.out,HY2.out];exact hlt2),Lib.hid (HS2.out _ _)⟩
      ·have hz:¬ cmpZ x.2 y.2<0:=fun h=>hlt2 (cmpZ_lt.1 h)
       have hzb:decide (cmpZ x.2 y.2<0)=false:=decide_eq_false hz
       have hzc:0<=cmpZ x.2 y.2:=by omega
       go_wp2_with fail
       go_quiet_grown (first|(go_at_call 291;exact hcc _ _))
       go_wp2_with fail
       go_roundg (j-(c+1))
       case measure=>omega
       case rel=>exact⟨c+1,j,by go_num,rfl,rfl,by omega,by omega,hj,Lib.hid (fun _=>by rw[Nat.add_sub_cancel,<-HD.out,HX2.out,HY2.out];omega),H2,Lib.hid (HS2.out _ _)⟩
    ·obtain rfl:i=j:=by omega
     have hltz:¬ ((i:Nat):Int)<(i:Int):=by omega
     have xL:=HXL.out
     have yL:=HYL.out
     obtain⟨t,ht⟩:∃ t,t=n-i:=⟨_,rfl⟩
     obtain⟨k,hk⟩:∃ k,k=i-a:=⟨_,rfl⟩
     obtain⟨e,he⟩:∃ e,e=t-m:=⟨_,rfl⟩
     have hbig:a<=i/\i<=m/\m<=t/\t<=b/\mid=i+e/\i=a+k/\t=m+e/\i+t=n/\k<=n1/\e<=n2/\t=mid+(m-i)/\(i<r0∨k=n1∨e=0)/\(s0<i∨k=0∨e=n2)/\(0<e->p-i=m+(e-1))/\(0<k->p-(i-1)=m+e):=by
      have g1:=HSR.out
      have g2:=HNM.out
      have g3:=HPP.out
      have g4:=HM.out
      have g5:=HB.out
      have g6:=HMID.out
      omega
     obtain⟨b1,b2,b3,b4,b5,b6,b7,b8,b9,b10,b11,b12,b13,b14,b15⟩:=hbig
     have HMG:Hid (isort (X++Y)=isort (X.take k++Y.take e)++isort (X.drop k++Y.drop e)):=Lib.hid (by
      refine merge_at hX hY ?_ ?_ (by omega) (by omega)
      ·intro q1 q2 q3
       have:=H2.out (by omega)
       rw[b14 q2,HGY.out (e-1) (by omega),b6,HGX.out k (by omega)]at this
       exact this
      ·intro q1 q2 q3
       have:=H1.out (by omega)
       rw[b15 q1,HGY.out e (by omega),show i-1=a+(k-1) from by omega,HGX.out (k-1) (by omega)]at this
       exact this)
     have hlL:=HL.out
     have hPa:=HP.out
     have hLE:=HLE.out
     rw[<-List.take_append_drop k X,<-List.take_append_drop e Y]at hLE
     have HFE:Hid (P++(isort (X.take k++Y.take e)++isort (X.drop k++Y.drop e))++S=F):=Lib.hid (by rw[<-HMG.out];exact HF.out)
     have l1:(X.take k).length=k:=by rw[List.length_take];omega
     have l2:(X.drop k).length=n1-k:=by rw[List.length_drop];omega
     have l3:(Y.take e).length=e:=by rw[List.length_take];omega
     have l4:(Y.drop e).length=n2-e:=by rw[List.length_drop];omega
     have s1:=srt_take hX k
     have s2:=srt_drop hX k
     have s3:=srt_take hY e
     have s4:=srt_drop hY e
     generalize X.take k=X1 at hLE HFE l1 s1
     generalize X.drop k=X2 at hLE HFE l2 s2
     generalize Y.take e=Y1 at hLE HFE l3 s3
     generalize Y.drop e=Y2 at hLE HFE l4 s4
     have hls:P.length+k+(n1-k)+e+(n2-e)+S.length=N:=by
      have h:=congrArg List.length hLE
      simp only[List.length_append]at h
      omega
     have HSP:Hid (SWL w0 blk off (P++X1++X2++Y1++(Y2++S)) wr):=Lib.hid (by
      have:=HS.out
      rw[<-hLE]at this
      simpa only[List.append_assoc] using this)
     have en:(n:Int)-(i:Int)=(t:Int):=by omega
     have HQ:Hid (mid=i+e/\i=a+k/\t=m+e/\t=mid+(m-i)/\m=a+n1/\b=m+n2):=Lib.hid ⟨b5,b6,b7,b11,HM.out,HB.out⟩
     have HL2:=Lib.hid l2
     have HL1:=Lib.hid l1
     have HL3:=Lib.hid l3
     have HL4:=Lib.hid l4
     clear b5 b6 b7 b11 hlt H1 H2 HS HMG hLE HGX HGY HLE HSR HMID HPP b12 b13 b14 b15 ht hk he b8 l1 l2 l3 l4 hs0 hr0 hi hj hij hPa hlL xL yL
     go_upto_region 39 with fail
     clear en
     obtain⟨c1,hc1⟩:∃ c1:Bool,c1=decide (i<m/\m<t):=⟨_,rfl⟩
     go_cut [185] from 178 to 184 (fun s185 wx=>s185 = .bool c1/\wx=wr)
     case first =>
      by_cases z1:i<m
      ·have z1z:(i:Int)<(m:Int):=by omega
       by_cases z2:m<t
       ·have z2z:(m:Int)<(t:Int):=by omega
        obtain rfl:c1=true:=by rw[hc1];exact decide_eq_true ⟨z1,z2⟩
        clear hc1
        go_wp2_with fail
        go_meet
        exact⟨rfl,rfl⟩
       ·have z2z:¬ (m:Int)<(t:Int):=by omega
        obtain rfl:c1=false:=by rw[hc1];exact decide_eq_false (fun h=>z2 h.2)
        clear hc1
        go_wp2_with fail
        go_meet
        exact⟨by first|rfl|(simp;omega),rfl⟩
      ·have z1z:¬ (i:Int)<(m:Int):=by omega
       obtain rfl:c1=false:=by rw[hc1];exact decide_eq_false (fun h=>z1 h.1)
       clear hc1
       go_wp2_with fail
       go_meet
       exact⟨by first|rfl|(simp;omega),rfl⟩
     case rest =>
      obtain⟨rfl,hwc⟩:=hcut
      rw[hwc]
      clear hwc
      go_upto_if 185 with fail
      go_cut [20] from 186 to 191 (fun s20 wx=>s20 = .int .i64 (i:Int)/\Hid (SWL w0 blk off (P++X1++Y1++X2++(Y2++S)) wx))
      case first =>
       by_cases hc:i<m/\m<t
       ·obtain rfl:c1=true:=by rw[hc1];exact decide_eq_true hc
        have HR:Hid (Calls Tryz.prog 388 #[.slice (some ⟨blk,off,none⟩) N cap,.int .i64 i,.int .i64 m,.int .i64 t,.func (.func 291) #[] #[]] wr (SwOk w0 blk off (P++X1++Y1++X2++(Y2++S)))):=by
         have q:=HQ.out
         have p0:=HP.out
         have y1:=HL1.out
         have y2:=HL2.out
         have y3:=HL3.out
         have y4:=HL4.out
         exact Lib.hid (rotate_any w0 blk off cap N l0 R (P++X1) X2 Y1 (Y2++S) i m t (by rw[List.length_append];omega) (by rw[List.length_append];omega) (by rw[List.length_append];omega) (by omega) (by omega) HNN.out (by simp only[List.length_append];omega) h6 wr HSP.out)
        clear hc1 hc hls
        go_wp2_with(first|(go_at_call 388;refine HR.out.mono ?_;rintro e w2 ⟨rfl,hS2⟩)|fail)
        go_meet
        exact⟨rfl,Lib.hid hS2⟩
       ·obtain rfl:c1=false:=by rw[hc1];exact decide_eq_false hc
        have HR:Hid (SWL w0 blk off (P++X1++Y1++X2++(Y2++S)) wr):=by
         have q:=HQ.out
         have y2:=HL2.out
         have y3:=HL3.out
         have hsp:=HSP.out
         rcases Nat.eq_zero_or_pos X2.length with h|h
         ·rw[List.eq_nil_of_length_eq_zero h]at hsp ⊢
          exact Lib.hid (by simpa only[List.append_nil] using hsp)
         ·have h3:Y1.length=0:=by omega
          rw[List.eq_nil_of_length_eq_zero h3]at hsp ⊢
          exact Lib.hid (by simpa only[List.append_nil] using hsp)
        clear hc1 hc hls
        go_wp2_with fail
        go_meet
        exact⟨rfl,HR⟩
      case rest =>
       obtain⟨rfl,HS3⟩:=hcut
       generalize wc=w3 at HS3 ⊢
       clear HSP hc1
       go_upto_region 41 with fail
       obtain⟨c2,hc2⟩:∃ c:Bool,c=decide (a<i/\i<mid):=⟨_,rfl⟩
       go_cut [199] from 192 to 198 (fun s199 wx=>s199 = .bool c2/\wx=w3)
       case first =>
        by_cases z1:a<i
        ·have z1z:(a:Int)<(i:Int):=by omega
         by_cases z2:i<mid
         ·have z2z:(i:Int)<(mid:Int):=by omega
          obtain rfl:c2=true:=by rw[hc2];exact decide_eq_true ⟨z1,z2⟩
          clear hc2
          go_wp2_with fail
          go_meet
          exact⟨rfl,rfl⟩
         ·have z2z:¬ (i:Int)<(mid:Int):=by omega
          obtain rfl:c2=false:=by rw[hc2];exact decide_eq_false (fun h=>z2 h.2)
          clear hc2
          go_wp2_with fail
          go_meet
          exact⟨by first|rfl|(simp;omega),rfl⟩
        ·have z1z:¬ (a:Int)<(i:Int):=by omega
         obtain rfl:c2=false:=by rw[hc2];exact decide_eq_false (fun h=>z1 h.1)
         clear hc2
         go_wp2_with fail
         go_meet
         exact⟨by first|rfl|(simp;omega),rfl⟩
       case rest =>
        obtain⟨rfl,hwc⟩:=hcut
        rw[hwc]
        clear hwc
        go_upto_if 199 with fail
        go_cut [20] from 200 to 205 (fun s20 wx=>s20 = .int .i64 (i:Int)/\Hid (SWL w0 blk off (P++isort (X1++Y1)++X2++Y2++S) wx))
        case first =>
         by_cases hc:a<i/\i<mid
         ·obtain rfl:c2=true:=by rw[hc2];exact decide_eq_true hc
          have HR:Hid (Calls Tryz.prog 369 #[.slice (some ⟨blk,off,none⟩) N cap,.int .i64 a,.int .i64 i,.int .i64 mid,.func (.func 291) #[] #[]] w3 (SwOk w0 blk off (P++isort (X1++Y1)++(X2++(Y2++S))))):=by
           have q:=HQ.out
           have p0:=HP.out
           have y1:=HL1.out
           have y2:=HL2.out
           have y3:=HL3.out
           have y4:=HL4.out
           exact Lib.hid (HIH.out P X1 Y1 (X2++(Y2++S)) a i mid (by omega) (by omega) (by omega) (by omega) (by omega) (by omega) s1 s3 (by simp only[List.length_append];omega) w3 (by have:=HS3.out;simpa only[List.append_assoc] using this))
          clear hc2 hc hls
          go_wp2_with(first|(go_at_call 369;refine HR.out.mono ?_;rintro e w2 ⟨rfl,hS2⟩)|fail)
          go_meet
          exact⟨rfl,Lib.hid (by simpa only[List.append_assoc] using hS2)⟩
         ·obtain rfl:c2=false:=by rw[hc2];exact decide_eq_false hc
          have HR:Hid (SWL w0 blk off (P++isort (X1++Y1)++X2++Y2++S) w3):=by
           have q:=HQ.out
           have y1:=HL1.out
           have y3:=HL3.out
           have hsp:=HS3.out
           have hi:isort (X1++Y1)=X1++Y1:=by
            rcases Nat.eq_zero_or_pos X1.length with h|h
            ·rw[List.eq_nil_of_length_eq_zero h,List.nil_append];exact isort_srt_self s3
            ·have h3:Y1.length=0:=by omega
             rw[List.eq_nil_of_length_eq_zero h3,List.append_nil];exact isort_srt_self s1
           rw[hi]
           exact Lib.hid (by simpa only[List.append_assoc] using hsp)
          clear hc2 hc hls
          go_wp2_with fail
          go_meet
          exact⟨rfl,HR⟩
        case rest =>
         obtain⟨rfl,HS4⟩:=hcut
         generalize wc=w4 at HS4 ⊢
         clear HS3 hc2
         go_upto_region 43 with fail
         obtain⟨c3,hc3⟩:∃ c:Bool,c=decide (mid<t/\t<b):=⟨_,rfl⟩
         go_cut [213] from 206 to 212 (fun s213 wx=>s213 = .bool c3/\wx=w4)
         case first =>
          by_cases z1:mid<t
          ·have z1z:(mid:Int)<(t:Int):=by omega
           by_cases z2:t<b
           ·have z2z:(t:Int)<(b:Int):=by omega
            obtain rfl:c3=true:=by rw[hc3];exact decide_eq_true ⟨z1,z2⟩
            clear hc3
            go_wp2_with fail
            go_meet
            exact⟨rfl,rfl⟩
           ·have z2z:¬ (t:Int)<(b:Int):=by omega
            obtain rfl:c3=false:=by rw[hc3];exact decide_eq_false (fun h=>z2 h.2)
            clear hc3
            go_wp2_with fail
            go_meet
            exact⟨by first|rfl|(simp;omega),rfl⟩
          ·have z1z:¬ (mid:Int)<(t:Int):=by omega
           obtain rfl:c3=false:=by rw[hc3];exact decide_eq_false (fun h=>z1 h.1)
           clear hc3
           go_wp2_with fail
           go_meet
           exact⟨by first|rfl|(simp;omega),rfl⟩
         case rest =>
          obtain⟨rfl,hwc⟩:=hcut
          rw[hwc]
          clear hwc
          by_cases hc:mid<t/\t<b
          ·obtain rfl:c3=true:=by rw[hc3];exact decide_eq_true hc
           have HR:Hid (Calls Tryz.prog 369 #[.slice (some ⟨blk,off,none⟩) N cap,.int .i64 mid,.int .i64 t,.int .i64 b,.func (.func 291) #[] #[]] w4 (SwOk w0 blk off (P++isort (X1++Y1)++isort (X2++Y2)++S))):=by
            have q:=HQ.out
            have p0:=HP.out
            have y1:=HL1.out
            have y2:=HL2.out
            have y3:=HL3.out
            have y4:=HL4.out
            have yi:=isort_len (X1++Y1)
            rw[List.length_append]at yi
            exact Lib.hid (HIH.out (P++isort (X1++Y1)) X2 Y2 S mid t b (by omega) (by rw[List.length_append];omega) (by rw[List.length_append];omega) (by rw[List.length_append];omega) (by omega) (by omega) s2 s4 (by simp only[List.length_append]at yi ⊢;omega) w4 HS4.out)
           clear hc3 hc hls
           go_wp2_with(first|(go_at_call 369;refine HR.out.mono ?_;rintro e w2 ⟨rfl,hS2⟩)|fail)
           go_end0
           exact⟨rfl,by rw[<-HFE.out];simpa only[List.append_assoc] using hS2⟩
          ·obtain rfl:c3=false:=by rw[hc3];exact decide_eq_false hc
           have HR:Hid (SWL w0 blk off F w4):=by
            have q:=HQ.out
            have y2:=HL2.out
            have y4:=HL4.out
            have hsp:=HS4.out
            have hi:isort (X2++Y2)=X2++Y2:=by
             rcases Nat.eq_zero_or_pos X2.length with h|h
             ·rw[List.eq_nil_of_length_eq_zero h,List.nil_append];exact isort_srt_self s4
             ·have h3:Y2.length=0:=by omega
              rw[List.eq_nil_of_length_eq_zero h3,List.append_nil];exact isort_srt_self s2
            have hf:=HFE.out
            rw[hi]at hf
            rw[<-hf]
            exact Lib.hid (by simpa only[List.append_assoc] using hsp)
           clear hc3 hc hls
           go_wp2_with fail
           go_end0
           exact⟨rfl,HR.out⟩
theorem sm_any(w0:World)(blk off cap N:Nat)(l0:List C)(R:RowC w0 blk off l0)(hN:N=l0.length)(h6:N<=1000000):∀ k,SmOk w0 blk off cap N k
 | 0=>fun P X Y S a m b h=>absurd h (Nat.not_lt_zero _)
 | k + 1 => by
  have ih:=sm_any w0 blk off cap N l0 R hN h6 k
  intro P X Y S a m b hk ha hm hb hX0 hY0 hX hY hl W hS
  by_cases h1:X.length=1
  ·obtain⟨x,rfl⟩:=List.length_eq_one_iff.1 h1
   exact sm_one w0 blk off cap N l0 R P x Y S a m b ha (by simpa using hm) (by simpa using hb) hY hN hl h6 W hS
  ·by_cases h2:Y.length=1
   ·obtain⟨y,rfl⟩:=List.length_eq_one_iff.1 h2
    exact sm_last w0 blk off cap N l0 R P X y S a m b X.length ha rfl (by omega) hm (by simpa using hb) hX hN hl h6 W hS
   ·exact sm_rec w0 blk off cap N l0 R P X Y S a m b X.length Y.length ha rfl rfl (by omega) (by omega) (by omega) (by omega) hX hY hN hl h6 (fun P X' Y' S a m b hk'=>ih P X' Y' S a m b (by omega)) W hS
theorem cut3{P X S M:List C}(h:Stb (P++X++S) (P++M++S)):Stb X M:=fun c=>by
 have:=h c
 simp only[List.filter_append]at this
 exact List.append_cancel_left (List.append_cancel_right this)
theorem at_X1{P X S:List C}{i:Nat}(hi:i<X.length):(P++X++S).toArray[P.length+i]! = X[i]!:=by
 have:=at_X (P:=P) (X:=X) (Y:=S) (S:=[]) hi
 rw[List.append_nil]at this
 exact this
theorem ins_part(P X S:List C):insertionSort (ltOf cfC) (P++X++S).toArray P.length (P.length+X.length)=(P++isort X++S).toArray:=by
 have hb:P.length+X.length<=(P++X++S).toArray.size:=by simp
 have h1:=insertionSort_holds (lt:=ltOf cfC) swoC (P++X++S).toArray P.length (P.length+X.length) (by omega) hb
 have h2:=insertion_stb (P++X++S).toArray P.length (P.length+X.length) hb
 obtain⟨d,hd⟩:∃ d,insertionSort (ltOf cfC) (P++X++S).toArray P.length (P.length+X.length)=d:=⟨_,rfl⟩
 rw[hd]at h1 h2 ⊢
 obtain⟨⟨hsz,hout,_⟩,hsrt⟩:=h1
 have hlen:d.toList.length=P.length+X.length+S.length:=by have:=h2.2;simp at this ⊢;omega
 have hget:∀ i,i<d.toList.length->(i<P.length∨P.length+X.length<=i)->d.toList[i]? = (P++X++S)[i]?:=by
  intro i hi hor
  have hi2:i<d.size:=by simpa using hi
  have:=hout i hor
  rw[getElem!_pos d i hi2,getElem!_pos _ i (by simp at hlen ⊢;omega)]at this
  rw[List.getElem?_eq_getElem hi,List.getElem?_eq_getElem (by simp at hlen ⊢;omega)]
  simpa using this
 have eP:d.toList.take P.length=P:=by
  apply List.ext_getElem?
  intro i
  by_cases hi:i<P.length
  ·rw[List.getElem?_take_of_lt hi,hget i (by omega) (.inl hi),List.append_assoc,List.getElem?_append_left hi]
  ·rw[List.getElem?_take_eq_none (by omega),List.getElem?_eq_none (by omega)]
 have eS:d.toList.drop (P.length+X.length)=S:=by
  apply List.ext_getElem?
  intro i
  rw[List.getElem?_drop]
  by_cases hi:i<S.length
  ·rw[hget _ (by omega) (.inr (by omega)),List.getElem?_append_right (by simp)]
   simp
  ·rw[List.getElem?_eq_none (by omega),List.getElem?_eq_none (by omega)]
 have eM:d.toList=P++(d.toList.drop P.length).take X.length++S:=by
  conv=>lhs;rw[<-List.take_append_drop P.length d.toList,eP,<-List.take_append_drop X.length (d.toList.drop P.length),List.drop_drop,eS]
  simp
 obtain⟨M,hM⟩:∃ M,(d.toList.drop P.length).take X.length=M:=⟨_,rfl⟩
 rw[hM]at eM
 have hstb:Stb X M:=cut3 (P:=P) (S:=S) (by rw[<-eM];simpa using h2.1)
 have hml:M.length=X.length:=by rw[<-hM];simp at hlen ⊢;omega
 have hsM:Srt M:=by
  unfold Srt
  rw[List.pairwise_iff_getElem]
  intro i j hi hj hij
  have:=hsrt (P.length+i) (P.length+j) (by omega) (by omega) (by omega)
  have ed:d=(P++M++S).toArray:=by rw[<-eM]
  rw[ed]at this
  rw[at_X1 hi,at_X1 hj,ltC,getElem!_pos M i hi,getElem!_pos M j hj]at this
  simp only[decide_eq_false_iff_not]at this
  omega
 have e:M=isort X:=isort_of hsM hstb
 rw[<-e]
 apply Array.ext'
 simpa using eM
theorem ins_list(w0:World)(blk off cap N:Nat)(l0:List C)(R:RowC w0 blk off l0)(P X S:List C)(a b:Nat)(ha:a=P.length)(hb:b=P.length+X.length)(hN:N=l0.length)(hl:(P++X++S).length=N)(h6:N<=1000000)(W:World)(hS:SWL w0 blk off (P++X++S) W) :
  Calls Tryz.prog 368 #[.slice (some ⟨blk,off,none⟩) N cap,.int .i64 a,.int .i64 b,.func (.func 291) #[] #[]] W (SwOk w0 blk off (P++isort X++S)):=by
 have hH:HoldsK encC 2 W blk off (P++X++S).toArray:=SWK.holds hS R.hblk R.hH (by rw[List.size_toArray,List.size_toArray];omega)
 have hlt:blk<W.heap.size:=SWK.lt hS R.hblk
 have h:=ins_any blk off cap a b (P++X++S).toArray W hH hlt (by omega) (by rw[List.size_toArray];simp only[List.length_append]at hl ⊢;omega) (by rw[List.size_toArray];omega)
 rw[List.size_toArray,hl]at h
 refine h.mono ?_
 rintro e w' ⟨rfl,n,os,rfl⟩
 refine⟨rfl, ?_⟩
 subst ha
 subst hb
 rw[ins_part]
 exact SWK.on hS R.hblk n _ os (by simp[isort_len])
def Chk (bs:Nat) (cs:List (List C)):Prop:=∀ c∈cs,c.length=bs/\Srt c
theorem chk_len{bs:Nat}:∀ {cs:List (List C)},Chk bs cs->cs.flatten.length=cs.length*bs
 | [],_=>by simp
 | c :: cs, h => by
  rw[List.flatten_cons,List.length_append,chk_len (fun x hx=>h x (by simp[hx])),(h c (by simp)).1,List.length_cons,Nat.add_mul];omega
theorem chk_snoc{bs:Nat}{cs:List (List C)}{c:List C}(h:Chk bs cs)(hc:c.length=bs)(hs:Srt c):Chk bs (cs++[c]):=by
 intro x hx
 rcases List.mem_append.1 hx with hx|hx
 ·exact h x hx
 ·rw[List.mem_singleton]at hx;subst hx;exact⟨hc,hs⟩
theorem flat_snoc(cs:List (List C))(c:List C):(cs++[c]).flatten=cs.flatten++c:=by simp
def WBlk (bs:Nat) (L:List C):Prop:=∃ cs t,L=cs.flatten++t/\Chk bs cs/\t.length<bs/\Srt t
theorem wblk_end{bs:Nat}{L:List C}(h:WBlk bs L)(hb:L.length<=bs):Srt L:=by
 obtain⟨cs,t,rfl,hc,ht,hs⟩:=h
 rw[List.length_append,chk_len hc]at hb
 rcases cs with _|⟨c,_|⟨c2,cs⟩⟩
 ·simpa using hs
 ·simp only[List.length_cons,List.length_nil]at hb
  have:t=[]:=List.eq_nil_of_length_eq_zero (by omega)
  subst this
  simpa using (hc c (by simp)).2
 ·exfalso
  simp only[List.length_cons]at hb
  have:(cs.length+1+1)*bs=cs.length*bs+2*bs:=by rw[Nat.add_mul,Nat.add_mul];omega
  omega
theorem stb_mid{P X Y S:List C}:Stb (P++X++Y++S) (P++isort (X++Y)++S):=by
 rw[List.append_assoc P X Y]
 exact ((Stb.refl P).append (isort_stb (X++Y))).append (Stb.refl S)
theorem stb_mid1{P X S:List C}:Stb (P++X++S) (P++isort X++S):=((Stb.refl P).append (isort_stb X)).append (Stb.refl S)
theorem stable_list_any(blk off cap N:Nat)(l:List C)(w:World)(R:RowC w blk off l)(hN:N=l.length)(h6:N<=100000) :
  Calls Tryz.prog 329 #[.slice (some ⟨blk,off,none⟩) N cap,.int .i64 N,.func (.func 291) #[] #[]] w (SwOk w blk off (isort l)):=by
 have HS0:Hid (SWL w blk off l w):=Lib.hid (SWK.start R.hH)
 have HNN:=Lib.hid hN
 have HR:=Lib.hid R
 clear hN R
 go_enter Tryz.func329,Tryz.ntmps329
 go_wp2
 go_loopg [7,8] N (fun k s7 s8 wr => ∃ (cs:List (List C)) (r:List C) (a b:Nat),s7 = .int .i64 (a:Int)/\s8 = .int .i64 (b:Int)/\k=N-a/\Hid (b=a+20)/\Hid (Chk 20 cs)/\Hid (a=cs.flatten.length)/\Hid (a+r.length=N)/\Hid (Stb l (cs.flatten++r))/\Hid (SWL w blk off (cs.flatten++r) wr))
 case atStart=>exact⟨[],l,0,20,rfl,rfl,rfl,Lib.hid rfl,Lib.hid (by simp[Chk]),Lib.hid rfl,Lib.hid (by rw[Nat.zero_add];exact HNN.out.symm),Lib.hid (Stb.refl l),HS0⟩
 case round =>
  obtain⟨cs,r,a,b,rfl,rfl,rfl,HB,HC,HA,HL,HST,HS⟩:=hrel
  clear HS0
  have hab:b=a+20:=HB.out
  have har:a+r.length=N:=HL.out
  have haN:a<=N:=by omega
  have hbN:b<=N+20:=by omega
  by_cases hlt:b<=N
  ·have hltz:(b:Int)<=(N:Int):=by omega
   have HI:Hid (Calls Tryz.prog 368 #[.slice (some ⟨blk,off,none⟩) N cap,.int .i64 a,.int .i64 b,.func (.func 291) #[] #[]] wr (SwOk w blk off (cs.flatten++isort (r.take 20)++r.drop 20))):=by
    have h20:(r.take 20).length=20:=by rw[List.length_take];omega
    have a1:=HA.out
    have hs:=HS.out
    rw[<-List.take_append_drop 20 r,<-List.append_assoc]at hs
    exact Lib.hid (ins_list w blk off cap N l HR.out cs.flatten (r.take 20) (r.drop 20) a b a1 (by omega) HNN.out (by simp only[List.length_append,List.length_drop];omega) (by omega) wr hs)
   clear hab har
   go_wp2_with(first|(go_at_call 368;refine HI.out.mono ?_;rintro e w2 ⟨rfl,hS2⟩)|fail)
   go_roundg (N-b)
   case measure=>have:=HB.out;omega
   case rel =>
    have hab:=HB.out
    have har:=HL.out
    have h20:(r.take 20).length=20:=by rw[List.length_take];omega
    have a1:=HA.out
    refine⟨cs++[isort (r.take 20)],r.drop 20,b,b+20,rfl,by go_num,rfl,Lib.hid rfl,Lib.hid (chk_snoc HC.out (by rw[isort_len];exact h20) (isort_srt _)),Lib.hid ?_,Lib.hid ?_,Lib.hid ?_,Lib.hid ?_⟩
    ·rw[flat_snoc,List.length_append,isort_len,h20];omega
    ·rw[List.length_drop];omega
    ·refine HST.out.trans ?_
     rw[flat_snoc]
     conv=>lhs;rw[<-List.take_append_drop 20 r,<-List.append_assoc]
     exact stb_mid1
    ·rw[flat_snoc];exact hS2
  ·have hltz:¬ (b:Int)<=(N:Int):=by omega
   have HI:Hid (Calls Tryz.prog 368 #[.slice (some ⟨blk,off,none⟩) N cap,.int .i64 a,.int .i64 N,.func (.func 291) #[] #[]] wr (SwOk w blk off (cs.flatten++isort r++[]))):=by
    have a1:=HA.out
    have hs:=HS.out
    rw[<-List.append_nil (cs.flatten++r)]at hs
    exact Lib.hid (ins_list w blk off cap N l HR.out cs.flatten r [] a N a1 (by omega) HNN.out (by simp only[List.length_append,List.length_nil];omega) (by omega) wr hs)
   have HW:Hid (WBlk 20 (cs.flatten++isort r)):=Lib.hid ⟨cs,isort r,rfl,HC.out,by rw[isort_len];omega,isort_srt _⟩
   have HST2:Hid (Stb l (cs.flatten++isort r)):=Lib.hid (HST.out.trans ((Stb.refl _).append (isort_stb r)))
   have HL2:Hid ((cs.flatten++isort r).length=N):=Lib.hid (by have:=HA.out;rw[List.length_append,isort_len];omega)
   rw[List.append_nil]at HI
   obtain⟨L0,hL0⟩:∃ L0,cs.flatten++isort r=L0:=⟨_,rfl⟩
   rw[hL0]at HI HW HST2 HL2
   clear hL0 HS HST HA HB HC HL hab har
   go_wp2_with(first|(go_at_call 368;refine HI.out.mono ?_;rintro e w2 ⟨rfl,hS2⟩)|fail)
   have HS2:=Lib.hid hS2
   clear hS2 HI
   go_loopg [6] (N-20) (fun k s6 wr => ∃ (bs:Nat) (L:List C),s6 = .int .i64 (bs:Int)/\k=N-bs/\20<=bs/\bs<=2*N+20/\Hid (WBlk bs L)/\Hid (Stb l L)/\Hid (L.length=N)/\Hid (SWL w blk off L wr))
   case atStart=>exact⟨20,L0,rfl,rfl,Nat.le_refl _,by omega,HW,HST2,HL2,HS2⟩
   case round =>
    obtain⟨bs,L,rfl,rfl,hb20,hbN,HW,HST,HL,HS⟩:=hrel
    clear HS2 HST2 HL2
    by_cases hbn:bs<N
    ·have hbz:(bs:Int)<(N:Int):=by omega
     obtain⟨b2,hb2⟩:∃ b2,b2=2*bs:=⟨_,rfl⟩
     have eb2:2*(bs:Int)=(b2:Int):=by omega
     have eb3:(bs:Int)*2=(b2:Int):=by omega
     have hb2N:b2<=2*N:=by omega
     have HB2:=Lib.hid hb2
     have HSM:=Lib.hid (sm_any w blk off cap N l HR.out HNN.out (by omega) (N+1))
     clear hb2
     go_wp2_with fail
     go_loopg [7,8] N (fun k s7 s8 wr => ∃ (ds cs:List (List C)) (t:List C) (a b:Nat),s7 = .int .i64 (a:Int)/\s8 = .int .i64 (b:Int)/\k=N-a/\Hid (b=a+b2)/\Hid (Chk b2 ds)/\Hid (Chk bs cs)/\Hid (t.length<bs)/\Hid (Srt t)/\Hid (a=ds.flatten.length)/\Hid (a+cs.flatten.length+t.length=N)/\Hid (Stb l (ds.flatten++(cs.flatten++t)))/\Hid (SWL w blk off (ds.flatten++(cs.flatten++t)) wr))
     case atStart =>
      obtain⟨cs,t,e,hc,ht,hst⟩:=HW.out
      refine⟨[],cs,t,0,b2,rfl,rfl,rfl,Lib.hid (by omega),Lib.hid (by simp[Chk]),Lib.hid hc,Lib.hid ht,Lib.hid hst,Lib.hid rfl,Lib.hid ?_,Lib.hid ?_,Lib.hid ?_⟩
      ·have:=HL.out;rw[e,List.length_append]at this;omega
      ·rw[<-e];exact HST.out
      ·rw[<-e];exact HS.out
     case round =>
      obtain⟨ds,cs,t,a,b,rfl,rfl,rfl,HB,HD,HC,HT,HTS,HA,HN2,HST2,HS2⟩:=hrel
      clear HS HST HL HW
      have hab:b=a+b2:=HB.out
      have hbb:b2=2*bs:=HB2.out
      have hn2:a+cs.flatten.length+t.length=N:=HN2.out
      have ht:=HT.out
      have haN:a<=N:=by omega
      have hbM:b<=3*N:=by omega
      by_cases hlt:b<=N
      ·have hltz:(b:Int)<=(N:Int):=by omega
       obtain⟨c1,c2,cs',rfl⟩:∃ c1 c2 cs',cs=c1::c2::cs':=by
        rcases cs with _|⟨c1,_|⟨c2,cs'⟩⟩
        ·simp at hn2;omega
        ·have:=(HC.out c1 (by simp)).1
         simp at hn2;omega
        ·exact⟨c1,c2,cs',rfl⟩
       have k1:=HC.out c1 (by simp)
       have k2:=HC.out c2 (by simp)
       have hHC2:Hid (Chk bs cs'):=Lib.hid (fun x hx=>HC.out x (by simp[hx]))
       simp only[List.flatten_cons,List.length_append]at hn2
       obtain⟨m,hm⟩:∃ m,m=a+bs:=⟨_,rfl⟩
       have em:(a:Int)+(bs:Int)=(m:Int):=by omega
       have HI:Hid (Calls Tryz.prog 369 #[.slice (some ⟨blk,off,none⟩) N cap,.int .i64 a,.int .i64 m,.int .i64 b,.func (.func 291) #[] #[]] wr (SwOk w blk off (ds.flatten++isort (c1++c2)++(cs'.flatten++t)))):=by
        have a1:=HA.out
        have hs:=HS2.out
        simp only[List.flatten_cons]at hs
        exact Lib.hid (HSM.out ds.flatten c1 c2 (cs'.flatten++t) a m b (by omega) a1 (by omega) (by omega) (by omega) (by omega) k1.2 k2.2 (by simp only[List.length_append];omega) wr (by simpa only[List.append_assoc] using hs))
       obtain⟨b',hb'⟩:∃ b',b'=b+b2:=⟨_,rfl⟩
       have eb':(b:Int)+(b2:Int)=(b':Int):=by omega
       have HB':=Lib.hid hb'
       have hb'N:b'<=5*N:=by omega
       have hlen12:(isort (c1++c2)).length=b2:=by rw[isort_len,List.length_append];omega
       have H12:=Lib.hid hlen12
       have HN3:Hid (b+cs'.flatten.length+t.length=N):=Lib.hid (by omega)
       have HA3:Hid (b=(ds++[isort (c1++c2)]).flatten.length):=Lib.hid (by rw[flat_snoc,List.length_append,hlen12];have:=HA.out;omega)
       have HST3:Hid (Stb l ((ds++[isort (c1++c2)]).flatten++(cs'.flatten++t))):=Lib.hid (by
        refine HST2.out.trans ?_
        rw[flat_snoc,List.flatten_cons,List.flatten_cons]
        have:=stb_mid (P:=ds.flatten) (X:=c1) (Y:=c2) (S:=cs'.flatten++t)
        simpa only[List.append_assoc] using this)
       have hlba:a<b:=by omega
       clear hab hbb hn2 ht hm hb' hlen12 k1 k2 HST2 HS2 HN2 HA HC
       go_wp2_with(first|(go_at_call 369;refine HI.out.mono ?_;rintro e w3 ⟨rfl,hS3⟩)|fail)
       go_roundg (N-b)
       case measure=>omega
       case rel=>exact⟨ds++[isort (c1++c2)],cs',t,b,b',rfl,by first|rfl|go_num,rfl,HB',Lib.hid (chk_snoc HD.out H12.out (isort_srt _)),hHC2,HT,HTS,HA3,HN3,HST3,Lib.hid (by rw[flat_snoc];exact hS3)⟩
      ·have hltz:¬ (b:Int)<=(N:Int):=by omega
       obtain⟨m,hm⟩:∃ m,m=a+bs:=⟨_,rfl⟩
       have em:(a:Int)+(bs:Int)=(m:Int):=by omega
       have hmM:m<=2*N:=by omega
       by_cases hmN:m<N
       ·have hmz:(m:Int)<(N:Int):=by omega
        obtain⟨c1,rfl⟩:∃ c1,cs=[c1]:=by
         rcases cs with _|⟨c1,_|⟨c2,cs'⟩⟩
         ·simp at hn2;omega
         ·exact⟨c1,rfl⟩
         ·have:=(HC.out c1 (by simp)).1
          have:=(HC.out c2 (by simp)).1
          simp at hn2;omega
        have k1:=HC.out c1 (by simp)
        simp only[List.flatten_cons,List.flatten_nil,List.append_nil]at hn2
        have HI:Hid (Calls Tryz.prog 369 #[.slice (some ⟨blk,off,none⟩) N cap,.int .i64 a,.int .i64 m,.int .i64 N,.func (.func 291) #[] #[]] wr (SwOk w blk off (ds.flatten++isort (c1++t)++[]))):=by
         have a1:=HA.out
         have hs:=HS2.out
         simp only[List.flatten_cons,List.flatten_nil,List.append_nil]at hs
         exact Lib.hid (HSM.out ds.flatten c1 t [] a m N (by omega) a1 (by omega) (by omega) (by omega) (by omega) k1.2 HTS.out (by simp only[List.length_append,List.length_nil];omega) wr (by simpa only[List.append_assoc,List.append_nil] using hs))
        rw[List.append_nil]at HI
        have HW3:Hid (WBlk b2 (ds.flatten++isort (c1++t))):=Lib.hid ⟨ds,isort (c1++t),rfl,HD.out,by rw[isort_len,List.length_append];omega,isort_srt _⟩
        have HST3:Hid (Stb l (ds.flatten++isort (c1++t))):=Lib.hid (by
         refine HST2.out.trans ?_
         simp only[List.flatten_cons,List.flatten_nil,List.append_nil]
         exact (Stb.refl _).append (isort_stb _))
        have HL3:Hid ((ds.flatten++isort (c1++t)).length=N):=Lib.hid (by rw[List.length_append,isort_len,List.length_append];have:=HA.out;omega)
        have hlb:20<=b2:=by omega
        have hbs:N-b2<N-bs:=by omega
        clear hab hbb hn2 ht hm k1 HST2 HS2 HN2 HA HC HB HT HTS HD eb2
        go_wp2_with(first|(go_at_call 369;refine HI.out.mono ?_;rintro e w3 ⟨rfl,hS3⟩)|fail)
        go_roundg (N-b2)
        case measure=>exact hbs
        case rel=>exact⟨b2,_,by first|rfl|go_num,rfl,hlb,by omega,HW3,HST3,HL3,Lib.hid hS3⟩
       ·have hmz:¬ (m:Int)<(N:Int):=by omega
        have HW3:Hid (WBlk b2 (ds.flatten++(cs.flatten++t))):=by
         rcases cs with _|⟨c1,_|⟨c2,cs'⟩⟩
         ·exact Lib.hid ⟨ds,t,by simp,HD.out,by omega,HTS.out⟩
         ·have k1:=HC.out c1 (by simp)
          simp at hn2
          have:t=[]:=List.eq_nil_of_length_eq_zero (by omega)
          subst this
          exact Lib.hid ⟨ds,c1,by simp,HD.out,by omega,k1.2⟩
         ·have:=(HC.out c1 (by simp)).1
          have:=(HC.out c2 (by simp)).1
          simp at hn2;omega
        have HL3:Hid ((ds.flatten++(cs.flatten++t)).length=N):=Lib.hid (by rw[List.length_append,List.length_append];have:=HA.out;omega)
        have hlb:20<=b2:=by omega
        have hbs:N-b2<N-bs:=by omega
        clear hab hbb hn2 ht hm HN2 HA HC HB HT HTS HD eb2
        go_wp2_with fail
        go_roundg (N-b2)
        case measure=>exact hbs
        case rel=>exact⟨b2,_,by first|rfl|go_num,rfl,hlb,by omega,HW3,HST2,HL3,HS2⟩
    ·have hbz:¬ (bs:Int)<(N:Int):=by omega
     go_wp2_with fail
     go_end0
     refine⟨rfl, ?_⟩
     have h1:=wblk_end HW.out (by rw[HL.out];omega)
     rw[<-isort_of h1 HST.out]
     exact HS.out
theorem stableCmp_any:StableCmpOk 100000:=by
 intro blk off cap d w hH hb hd
 have R:RowC w blk off d.toList:=⟨encC_len,encC_one,by simpa using hH,hb⟩
 have h:=stable_list_any blk off cap d.size d.toList w R (by simp) hd
 exact h
theorem stable_any:StableOk 100000:=stable_of_cmp stableCmp_any
end Go.Proofs.YtkibdkfdffkkfaaGreatDoor
