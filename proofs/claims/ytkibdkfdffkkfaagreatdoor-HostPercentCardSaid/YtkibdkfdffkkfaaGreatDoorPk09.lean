import Derived.Test.YtkibdkfdffkkfaaGreatDoorRows
import Derived.Test.YtkibdkfdffkkfaaGreatDoorPk08
set_option maxRecDepth 100000
set_option maxHeartbeats 8000000
namespace Go.Proofs.YtkibdkfdffkkfaaGreatDoor.Pn
open Go.RowKit Puny
def isSca (n:Int):Bool:=decide (0<=n/\n<=1114111/\(n<55296∨57343<n))
theorem scalar_any(r:Int)(w:World):Calls Tryz.prog 307 #[.int .i64 r] w fun e w'=>e = .returned (.bool (isSca r))/\w=w':=by
 by_cases h1:0<=r
 ·by_cases h2:r<=1114111
  ·by_cases h3:r<55296
   ·go_enter Tryz.func307,Tryz.ntmps307
    go_wp2
    go_ret
    exact⟨ret_bool (by simp[isSca];omega),rfl⟩
   ·by_cases h4:57343<r
    ·go_enter Tryz.func307,Tryz.ntmps307
     go_wp2
     go_ret
     exact⟨ret_bool (by simp[isSca];omega),rfl⟩
    ·go_enter Tryz.func307,Tryz.ntmps307
     go_wp2
     go_ret
     exact⟨ret_bool (by simp[isSca];omega),rfl⟩
  ·go_enter Tryz.func307,Tryz.ntmps307
   go_wp2
   go_ret
   exact⟨ret_bool (by simp[isSca];omega),rfl⟩
 ·go_enter Tryz.func307,Tryz.ntmps307
  go_wp2
  go_ret
  exact⟨ret_bool (by simp[isSca];omega),rfl⟩
theorem scalar_yes{r:Int}(w:World)(h:isSca r=true):Calls Tryz.prog 307 #[.int .i64 r] w fun e w'=>e = .returned (.bool true)/\w=w':=by
 have:=scalar_any r w
 rw[h]at this
 exact this
theorem scalar_no{r:Int}(w:World)(h:isSca r=false):Calls Tryz.prog 307 #[.int .i64 r] w fun e w'=>e = .returned (.bool false)/\w=w':=by
 have:=scalar_any r w
 rw[h]at this
 exact this
def IsBool (b:Bool) (w:World) (e:Ending) (w':World):Prop:=e = .returned (.bool b)/\w=w'
theorem isBool_mk{a b:Bool}{w:World}(h:a=b):IsBool b w (.returned (.bool a)) w:=⟨by rw[h],rfl⟩
theorem allScalars_any(l:List Int)(A:Option Addr)(n c:Nat)(w:World)(hn:l.length=n)(hn1:n<=1000000)(hr:Row w w.heap.size A (cl .i32 l))(hw:∀ x∈l,-2147483648<=x/\x<=2147483647) :
  Calls Tryz.prog 312 #[.slice A n c] w (IsBool (l.all isSca) w):=by
 have HN:=Lib.hid hn
 have HW:=Lib.hid hw
 clear hn hw
 go_enter Tryz.func312,Tryz.ntmps312
 go_wp2
 go_loop [7] (fun i => ∃ k:Nat,k<=n/\i = .int .i64 k/\l.all isSca=(l.drop k).all isSca) (fun i=>n-(intOf i).toNat)
 case atStart=>exact⟨0,by omega,rfl,rfl⟩
 case round =>
  obtain⟨k,hk,rfl,hall⟩:=hrel
  have HA:=Lib.hid hall
  clear hall
  by_cases hlt:k<n
  ·have hkl:k<l.length:=by rw[HN.out];exact hlt
   obtain⟨b,o,rfl,hb,hc⟩:=hr.at_ (by simp;omega)
   have g:=hc k (by simp;omega)
   rw[cl_get _ _ _ hkl]at g
   have hx:=HW.out l[k] (List.getElem_mem hkl)
   have hd:l.drop k=l[k]::l.drop (k+1):=List.drop_eq_getElem_cons hkl
   have HD:=Lib.hid hd
   clear hd hc hr
   cases hs:isSca l[k] with
   | true =>
    have HS:=Lib.hid hs
    clear hs
    go_wp2_with(first|(go_at_call 307;refine (scalar_yes _ HS.out).mono ?_;rintro e w' ⟨rfl,rfl⟩)|fail)
    go_round
    case rel=>exact⟨k+1,by omega,by go_num,by rw[HA.out,HD.out,List.all_cons,HS.out];rfl⟩
    case measure=>simp[intOf];omega
   | false =>
    have HS:=Lib.hid hs
    clear hs
    go_wp2_with(first|(go_at_call 307;refine (scalar_no _ HS.out).mono ?_;rintro e w' ⟨rfl,rfl⟩)|fail)
    go_ret
    exact isBool_mk (by rw[HA.out,HD.out,List.all_cons,HS.out];rfl)
  ·obtain rfl:k=n:=by omega
   go_wp2
   go_ret
   exact isBool_mk (by rw[HA.out,List.drop_of_length_le (by rw[HN.out];omega)];rfl)
theorem info_u8:(Tryz.prog.info? 5).map (fun i=>(i.zero,i.size,i.bytes))=some (some (.int .u8 0),1,1):=by kernel_rfl
theorem info_i32:(Tryz.prog.info? 21).map (fun i=>(i.zero,i.size,i.bytes))=some (some (.int .i32 0),1,4):=by kernel_rfl
def biasV (lead part:Nat):Value:=.agg #[.int .i64 lead,.int .i64 part]
theorem firstBias_any(w:World):Calls Tryz.prog 314 #[] w fun e w'=>e = .returned (biasV 72 700)/\Below w.heap.size w w':=by
 go_enter Tryz.func314,Tryz.ntmps314
 go_wp2
 exact bodyPost_ret (v:=biasV 72 700) (by simp[results,Tryz.results314,go_sem,biasV]) rfl ⟨rfl,(Below.refl _ _).alloc (Nat.le_refl _) _⟩
theorem threshold_any(lead part k:Nat)(w:World)(hl:lead<=1000000000000)(hk:k<=1000000000000) :
  Calls Tryz.prog 361 #[.agg #[.int .i64 lead,.int .i64 part],.int .i64 k] w fun e w'=>e = .returned (.int .i64 (thr lead k:Nat))/\Below w.heap.size w w':=by
 by_cases h1:36*(k:Int)-(lead:Int)<1
 ·go_enter Tryz.func361,Tryz.ntmps361
  go_wp2
  go_ret
  exact⟨ret_int (by unfold thr;omega),(Below.refl _ _).alloc (Nat.le_refl _) _⟩
 ·by_cases h2:26<36*(k:Int)-(lead:Int)
  ·go_enter Tryz.func361,Tryz.ntmps361
   go_wp2
   go_ret
   exact⟨ret_int (by unfold thr;omega),(Below.refl _ _).alloc (Nat.le_refl _) _⟩
  ·go_enter Tryz.func361,Tryz.ntmps361
   go_wp2
   go_ret
   exact⟨ret_int (by unfold thr;omega),(Below.refl _ _).alloc (Nat.le_refl _) _⟩
def Followed (B d part h:Nat) (w:World) (e:Ending) (w':World):Prop :=
 e = .returned (.tuple #[])/\w'=(w.setCell ⟨B,0,none⟩ (.int .i64 (next d part h:Nat))).setCell ⟨B,1,none⟩ (.int .i64 2)
theorem followed_mk{B d part h x:Nat}{w:World}(e:next d part h=x):Followed B d part h w (.returned (.tuple #[])) ((w.setCell ⟨B,0,none⟩ (.int .i64 (x:Nat))).setCell ⟨B,1,none⟩ (.int .i64 2)):=by
 subst e;exact⟨rfl,rfl⟩
theorem adapt_go{d k:Nat}(h:455<d):adapt d k=adapt (d/35) (k+36):=by rw[adapt,dif_pos h]
theorem adapt_end{d k:Nat}(h:¬ 455<d):adapt d k=k+36*d/(d+38):=by rw[adapt,dif_neg h]
theorem follow_any(B d part h:Nat)(lead:Int)(w:World)(hd:d<=100000000000)(hp:0<part)(hh0:0<h)(hh:h<=1000000)
  (c0:w.cell? ⟨B,0,none⟩=some (.int .i64 lead)) (c1:w.cell? ⟨B,1,none⟩=some (.int .i64 part)) (f0:w.frozen? ⟨B,0,none⟩=false) (f1:w.frozen? ⟨B,1,none⟩=false) :
  Calls Tryz.prog 317 #[.pointer (some ⟨B,0,none⟩),.int .i64 d,.int .i64 h] w (Followed B d part h w):=by
 have hh3:((h:Int)==0)=false:=by simp;omega
 have hq0:((d:Int)/part)/h=((d/part/h:Nat):Int):=by simp
 have hp1:((d:Int)/part)=((d/part:Nat):Int):=by simp
 have hb1:d/part<=d:=Nat.div_le_self _ _
 have hb2:d/part/h<=d/part:=Nat.div_le_self _ _
 obtain⟨x,hx⟩:∃ x,d/part=x:=⟨_,rfl⟩
 rw[hx]at hb1 hb2 hp1 hq0
 obtain⟨y,hy⟩:∃ y,x/h=y:=⟨_,rfl⟩
 rw[hy]at hb2 hq0
 have hxh:(x:Int)/h=(y:Int):=by rw[<-hy];simp
 have HN:=Lib.hid (show next d part h=adapt (x+y) 0 by unfold next;rw[hx,hy])
 clear hx hy hq0
 go_enter Tryz.func317,Tryz.ntmps317
 go_wp2
 go_loop [1,6] (fun u v => ∃ dd kk:Nat,u = .int .i64 dd/\v = .int .i64 kk/\dd+kk<=200000000000/\next d part h=adapt dd kk) (fun u _=>(intOf u).toNat)
 case atStart=>exact⟨x+y,0,by go_num,rfl,by omega,HN.out⟩
 case round =>
  obtain⟨dd,kk,rfl,rfl,hb,ha⟩:=hrel
  have HA:=Lib.hid ha
  clear ha
  by_cases hlt:455<dd
  ·go_wp2
   go_round
   case rel=>exact⟨dd/35,kk+36,by go_num,by go_num,by omega,by rw[HA.out,adapt_go hlt]⟩
   case measure=>simp[intOf];omega
  ·have hz:36*(dd:Int)/((dd:Int)+38)=((36*dd/(dd+38):Nat):Int):=by simp
   have hz2:36*dd/(dd+38)<=36*dd:=Nat.div_le_self _ _
   obtain⟨q,hq⟩:∃ q,36*dd/(dd+38)=q:=⟨_,rfl⟩
   have HQ:=Lib.hid hq
   rw[hq]at hz hz2
   clear hq
   go_wp2
   go_end0
   exact followed_mk (x:=kk+q) (by rw[HA.out,adapt_end hlt,HQ.out])
def sgn (d:Nat):Int:=((sign d).toNat:Int)
def alpha:ByteArray:={ data:=#[97,98,99,100,101,102,103,104,105,106,107,108,109,110,111,112,113,114,115,116,117,118,119,120,121,122,48,49,50,51,52,53,54,55,56,57] }
theorem alpha_at{d:Nat}(h:d<36):alpha.data[d]? = some (sign d):=by
 have:∀ d:Fin 36,alpha.data[d.1]? = some (sign d.1):=by decide +kernel
 exact this ⟨d,h⟩
theorem idx{d:Nat}(hd:d<36)(b:ByteArray)(hb:b=alpha)(i:Nat)(hi:i=d)(h:i<b.size):((b[i]'h).toNat:Int)=sgn d:=by
 subst hb hi
 unfold sgn
 have:=alpha_at hd
 rw[Array.getElem?_eq_some_iff]at this
 obtain⟨_,h2⟩:=this
 rw[<-h2]
 rfl
theorem blk2{w:World}{B:Nat}{a b:Value}{t:TypeId}(h:w.heap[B]? = some (.cells #[a,b] t (0,0))) :
  w.cell? ⟨B,0,none⟩=some a/\w.cell? ⟨B,1,none⟩=some b/\w.frozen? ⟨B,0,none⟩=false/\w.frozen? ⟨B,1,none⟩=false:=by
 refine⟨?_, ?_, ?_, ?_⟩
 all_goals simp[World.cell?,World.frozen?,h]
def Grew (w:World) (v0:Value) (w':World) (v:Value):Prop :=
 w.grownBy w' v0.ownBlock/\(v.ownBlock=v0.ownBlock∨∃ j,v.ownBlock=some j/\w.heap.size<=j)
theorem Grew.refl(w:World)(v:Value):Grew w v w v:=⟨World.grownBy.refl _ _,.inl rfl⟩
theorem Grew.step{w w1 w2:World}{v0 v v':Value}(h:Grew w v0 w1 v)(k:w1.grownBy w2 v.ownBlock)(hv:v'.ownBlock=v.ownBlock∨∃ j,v'.ownBlock=some j/\w1.heap.size<=j):Grew w v0 w2 v':=by
 refine⟨h.1.andThen k fun j hj => ?_, ?_⟩
 ·rcases h.2 with e|⟨i,e,hi⟩
  ·exact .inr (by rw[<-e];exact hj)
  ·rw[e]at hj;injection hj with hj;subst hj;exact .inl hi
 ·rcases hv with e|⟨i,e,hi⟩
  ·rw[e];exact h.2
  ·exact .inr ⟨i,e,Nat.le_trans h.1.size hi⟩
theorem Grew.below{w w1 w2:World}{v0 v:Value}(h:Grew w v0 w1 v)(hB:Below w1.heap.size w1 w2):Grew w v0 w2 v :=
 h.step (World.grownBy.but ⟨hB.os,hB.tape,hB.output,hB.size,fun j hj _=>hB.block j hj⟩ _) (.inl rfl)
theorem Grew.alloc{w w1:World}{v0 v:Value}(h:Grew w v0 w1 v)(o:Obj):Grew w v0 (w1.alloc o) v:=h.step (World.grownBy_alloc w1 o _) (.inl rfl)
theorem Grew.append{w w1 w2:World}{v0 v v':Value}{o:Obj}(h:Grew w v0 w1 v)(k:(w1.alloc o).grownBy w2 v.ownBlock)(hv:v'.ownBlock=v.ownBlock∨v'.ownBlock=some (w1.alloc o).heap.size):Grew w v0 w2 v' :=
 (h.alloc o).step k (hv.imp_right fun e=>⟨_,e,Nat.le_refl _⟩)
theorem Grew.from_alloc{w w':World}{v0 v:Value}{o:Obj}(h:Grew (w.alloc o) v0 w' v):Grew w v0 w' v :=
 ⟨(World.grownBy_alloc w o _).trans h.1,h.2.imp_right fun ⟨j,e,hj⟩=>⟨j,e,by simp at hj;omega⟩⟩
def Added (base:Nat) (v:Value) (n:Nat) (xs:List Value) (news:List Int) (w:World) (e:Ending) (w':World):Prop :=
 ∃ v',e = .returned v'/\w'.ownsRow base 5 1 v' (n+news.length) (xs++cl .u8 news)/\Grew w v w' v'
theorem added_mk{base:Nat}{v:Value}{n m:Nat}{xs:List Value}{L done:List Int}{x y:Int}{w w2:World}{v':Value}(hL:L=done++[x])(hx:y=x)(hm:n+done.length+1=m)
  (hown:w2.ownsRow base 5 1 v' m (xs++cl .u8 done++[.int .u8 y])) (hg:Grew w v w2 v'):Added base v n xs L w (.returned v') w2:=by
 subst hL hx hm
 exact⟨v',rfl,by simpa[Nat.add_assoc] using hown,hg⟩
theorem own_snoc{base n m:Nat}{xs:List Value}{done:List Int}{x y:Int}{w2:World}{v':Value}(hx:y=x)(hm:n+done.length+1=m)
  (hown:w2.ownsRow base 5 1 v' m (xs++cl .u8 done++[.int .u8 y])):w2.ownsRow base 5 1 v' (n+(done++[x]).length) (xs++cl .u8 (done++[x])):=by
 subst hx hm
 simpa[Nat.add_assoc] using hown
def AddRel (base:Nat) (v0:Value) (n:Nat) (xs:List Value) (lead d0:Nat) (w:World) (s0 s1 s7:Value) (wr:World):Prop :=
 ∃ (k d : Nat) (done : List Int), s1 = .int .i64 d ∧ s7 = .int .i64 k ∧ d ≤ d0 ∧ k + d ≤ 1 + d0 ∧ 1 ≤ k ∧ (digs lead 1 d0).map sgn = done ++ (digs lead k d).map sgn ∧ done.length + d ≤ d0 ∧
  wr.ownsRow base 5 1 s0 (n+done.length) (xs++cl .u8 done)/\Grew w v0 wr s0
theorem addDigits_any(base:Nat)(v:Value)(n:Nat)(xs:List Value)(d0 lead part:Nat)(w:World)(hown:w.ownsRow base 5 1 v n xs)(hn:n<=100000000)(hb:base<=w.heap.size)
  (hl:lead<=1000000000000) (hd:d0<=100000000000) :
  Calls Tryz.prog 316 #[v,.int .i64 d0,.agg #[.int .i64 lead,.int .i64 part]] w (Added base v n xs ((digs lead 1 d0).map sgn) w):=by
 obtain⟨i0,hi,hz0,hz1,hz2⟩:=info_parts info_u8
 go_enter Tryz.func316,Tryz.ntmps316
 go_wp2
 go_loopw [0,1,7] (fun s0 s1 s7 wr=>AddRel base v n xs lead d0 (w.alloc (.cells #[.int .i64 lead,.int .i64 part] 353)) s0 s1 s7 wr) (fun _ s1 _ _=>(intOf s1).toNat)
 case atStart=>exact⟨1,d0,[],rfl,rfl,Nat.le_refl _,by omega,Nat.le_refl _,rfl,by simp,by simpa using hown.alloc _,Grew.refl _ _⟩
 case round =>
  obtain⟨k,d,done,rfl,rfl,h1,h2,h3,hdg,hdn,hown1,hg⟩:=hrel
  have hbx:wr.heap[w.heap.size]? = some (.cells #[.int .i64 lead,.int .i64 part] 353 (0,0)):=by
   rw[hg.1.block w.heap.size (by simp) (fun e=>by have:=(hown.lt _ e.symm).2;omega)]
   exact World.alloc_heap_new w _
  obtain⟨c0,c1,_,_⟩:=blk2 hbx
  have hszr:=hg.1.size
  rw[World.size_alloc]at hszr
  have ht1:=thr_lo lead k
  have ht2:=thr_hi lead k
  have HDG:=Lib.hid hdg
  clear hdg hbx
  obtain⟨t,ht⟩:∃ t,thr lead k=t:=⟨_,rfl⟩
  have ct:∀ u,Calls Tryz.prog 361 #[.agg #[.int .i64 lead,.int .i64 part],.int .i64 k] u fun e w'=>e = .returned (.int .i64 (t:Nat))/\Below u.heap.size u w':=fun u=>by
   rw[<-ht];exact threshold_any lead part k u (by omega) (by omega)
  rw[ht]at ht1 ht2
  by_cases hlt:d<t
  ·have HDL:=Lib.hid (show digs lead k d=[d] from digs_last (by rw[ht];exact hlt))
   clear ht
   go_wp2_with(first
    | (go_at_call 361;refine (ct _).mono ?_;rintro e w1 ⟨rfl,hB1⟩)
    | (at_builtin;refine wpList_append_own_at _ rfl _ _ 40 rfl base 5 i0 (.int .u8 0) 1 1 Tryz.underlying40 hi hz0 hz1 hz2 rfl (by decide) _ _ _ rfl ((own_below hown1 hB1).alloc _) ⟨w1.heap.size,0,none⟩ 1 1 _ rfl (by rfl) (news_new _ _ _ _ rfl) (by simp[Value.oneCell']) (by unfold maxLen;omega) (by omega) (by have:=hB1.size;simp;omega) ?_;intro v' w2 hown2 hgrow2 _ hblk2)
    | fail)
   go_ret
   exact added_mk (x:=sgn d) (by rw[HDG.out,HDL.out];rfl) (idx (by omega) _ rfl _ (by simp) _) rfl hown2 (((hg.below hB1).append hgrow2 hblk2).from_alloc)
  ·have hm:=Nat.mod_lt (d-t) (show 0<36-t by omega)
   have hq:=digs_dec hlt ht1
   have hq2:=Nat.div_le_self (d-t) (36-t)
   have HDL:=Lib.hid (show digs lead k d=(t+(d-t)%(36-t))::digs lead (k+1) ((d-t)/(36-t)) by have:=digs_more (lead:=lead) (k:=k) (d:=d) (by rw[ht];exact hlt);rw[ht]at this;exact this)
   have hdt:(d:Int)-t=((d-t:Nat):Int):=by omega
   have htt:(36:Int)-t=((36-t:Nat):Int):=by omega
   have hm1:((d:Int)-t)%((36:Int)-t)=(((d-t)%(36-t):Nat):Int):=by rw[hdt,htt];simp
   have hq1:((d:Int)-t)/((36:Int)-t)=(((d-t)/(36-t):Nat):Int):=by rw[hdt,htt];simp
   obtain⟨m,hmm⟩:∃ m,(d-t)%(36-t)=m:=⟨_,rfl⟩
   obtain⟨q,hqq⟩:∃ q,(d-t)/(36-t)=q:=⟨_,rfl⟩
   rw[hmm]at hm hm1
   rw[hqq]at hq hq2 hq1
   rw[hmm,hqq]at HDL
   clear ht hmm hqq hdt htt
   go_wp2_with(first
    | (go_at_call 361;refine (ct _).mono ?_;rintro e w1 ⟨rfl,hB1⟩)
    | (at_builtin;refine wpList_append_own_at _ rfl _ _ 40 rfl base 5 i0 (.int .u8 0) 1 1 Tryz.underlying40 hi hz0 hz1 hz2 rfl (by decide) _ _ _ rfl ((own_below hown1 hB1).alloc _) ⟨w1.heap.size,0,none⟩ 1 1 _ rfl (by rfl) (news_new _ _ _ _ rfl) (by simp[Value.oneCell']) (by unfold maxLen;omega) (by omega) (by have:=hB1.size;simp;omega) ?_;intro v' w2 hown2 hgrow2 _ hblk2)
    | fail)
   go_roundw
   case rel =>
    refine⟨k+1,q,done++[sgn (t+m)],by go_num,by go_num,by omega,by omega,by omega,by rw[HDG.out,HDL.out];simp,by simp;omega, ?_,(hg.below hB1).append hgrow2 hblk2⟩
    exact own_snoc (idx (by omega) _ rfl _ (by simp<;>omega) _) rfl hown2
   case measure=>simp[intOf];omega
theorem IndexByte1_any(s:ByteArray)(c:Int)(w:World) :
  Calls Tryz.prog 84 #[.string s,.int .u8 c] w fun e w'=>e = .returned (.int .i64 (Lib.indexByte s.data.toList c.toNat.toUInt8))/\w=w':=by
 go_enter Tryz.func84,Tryz.ntmps84
 go_wp2
 rw[run_callFunc_extern Tryz.func141 (by kernel_rfl) (by kernel_rfl) (by kernel_rfl) (e:=Extern.BytealgIndexByte.indexByte) (by kernel_rfl),Lib.run_indexByteString]
 simp only[Result.andThen]
 rw[Oper.upon_value]
 go_wp2
 go_ret
 exact⟨rfl,rfl⟩
theorem IndexByte_any(s:ByteArray)(c:Int)(w:World) :
  Calls Tryz.prog 44 #[.string s,.int .u8 c] w fun e w'=>e = .returned (.int .i64 (Lib.indexByte s.data.toList c.toNat.toUInt8))/\w=w':=by
 go_enter Tryz.func44,Tryz.ntmps44
 go_wp2_with(first|(go_at_call 84;refine (IndexByte1_any _ _ _).mono ?_;rintro e w' ⟨rfl,rfl⟩)|fail)
 go_ret
 exact⟨rfl,rfl⟩
theorem ixb_alpha(c:UInt8):Lib.indexByte alpha.data.toList c=match worth c with|some d=>(d:Int)|none => -1:=by
 have h:∀ n:Fin 256,Lib.indexByte alpha.data.toList (UInt8.ofNat n.1)=match worth (UInt8.ofNat n.1) with|some d=>(d:Int)|none => -1:=by decide +kernel
 have:=h ⟨c.toNat,c.toNat_lt⟩
 simpa using this
def dig (x:Int):Int:=match worth x.toNat.toUInt8 with|some d=>(d:Int)|none => -1
theorem IndexByte_dig(c:Int)(w:World) :
  Calls Tryz.prog 44 #[.string { data:=#[97,98,99,100,101,102,103,104,105,106,107,108,109,110,111,112,113,114,115,116,117,118,119,120,121,122,48,49,50,51,52,53,54,55,56,57] },.int .u8 c] w
   fun e w'=>e = .returned (.int .i64 (dig c))/\w=w':=by
 have h:=IndexByte_any alpha c w
 rw[ixb_alpha]at h
 exact h
def numR (lead limit:Nat) (s:List UInt8):Nat × Nat :=
 match num lead 1 s with
 | some (v,n)=>if v<limit then (v,n) else (0,0)
 | none=>(0,0)
def numG (lead limit acc weight j:Nat) (rest:List UInt8):Nat × Nat :=
 match num lead (j+1) rest with
 | some (v,n)=>if acc+weight*v<limit then (acc+weight*v,j+n) else (0,0)
 | none=>(0,0)
theorem numG_start(lead limit:Nat)(s:List UInt8):numR lead limit s=numG lead limit 0 1 0 s:=by
 unfold numR numG
 cases num lead 1 s with
 | none=>rfl
 | some r=>obtain⟨v,n⟩:=r;simp
theorem numG_nil(lead limit acc weight j:Nat):numG lead limit acc weight j []=(0,0):=rfl
theorem numG_bad{lead limit acc weight j:Nat}{c:UInt8}{l:List UInt8}(h:worth c=none):numG lead limit acc weight j (c::l)=(0,0):=by
 unfold numG num;rw[h]
theorem numG_last{lead limit acc weight j x:Nat}{c:UInt8}{l:List UInt8}(h:worth c=some x)(hx:x<thr lead (j+1)):numG lead limit acc weight j (c::l)=if acc+weight*x<limit then (acc+weight*x,j+1) else (0,0):=by
 unfold numG num;rw[h];simp only;rw[if_pos hx]
theorem numG_great{lead limit acc weight j x:Nat}{c:UInt8}{l:List UInt8}(h:worth c=some x)(hx:¬ acc+weight*x<limit):numG lead limit acc weight j (c::l)=(0,0):=by
 unfold numG num;rw[h];simp only
 by_cases hlt:x<thr lead (j+1)
 ·rw[if_pos hlt];simp only;rw[if_neg hx]
 ·rw[if_neg hlt]
  cases num lead (j+1+1) l with
  | none=>rfl
  | some r =>
   obtain⟨v,n⟩:=r
   simp only
   have:weight*x<=weight*(x+(36-thr lead (j+1))*v):=Nat.mul_le_mul_left _ (Nat.le_add_right _ _)
   rw[if_neg (by omega)]
theorem numG_more{lead limit acc weight j x:Nat}{c:UInt8}{l:List UInt8}(h:worth c=some x)(hx:¬ x<thr lead (j+1)) :
  numG lead limit acc weight j (c::l)=numG lead limit (acc+weight*x) (weight*(36-thr lead (j+1))) (j+1) l:=by
 unfold numG
 rw[num,h]
 simp only
 rw[if_neg hx]
 cases num lead (j+1+1) l with
 | none=>rfl
 | some r =>
  obtain⟨v,n⟩:=r
  simp only
  rw[show acc+weight*(x+(36-thr lead (j+1))*v)=acc+weight*x+weight*(36-thr lead (j+1))*v by rw[Nat.mul_add,Nat.mul_assoc];omega,show j+1+n=j+(n+1) by omega]
def Numbered (r:Nat × Nat) (w:World) (e:Ending) (w':World):Prop :=
 e = .returned (.tuple #[.int .i64 r.1,.int .i64 r.2])/\Below w.heap.size w w'
theorem numbered_mk{r:Nat × Nat}{a b:Nat}{w w':World}(h:r=(a,b))(hB:Below w.heap.size w w'):Numbered r w (.returned (.tuple #[.int .i64 a,.int .i64 b])) w':=by
 subst h;exact⟨rfl,hB⟩
def NumRel (s:ByteArray) (lead limit:Nat) (w:World) (s6 s8 s9:Value) (wr:World):Prop :=
 ∃ (acc weight j : Nat), s6 = .int .i64 acc ∧ s8 = .int .i64 weight ∧ s9 = .int .i64 ((j : Int) + 1) ∧ j ≤ s.size ∧ acc < limit ∧ weight ≤ 35 * limit ∧
  numR lead limit s.data.toList=numG lead limit acc weight j (s.data.toList.drop j)/\Below w.heap.size w wr
theorem number_any(s:ByteArray)(lead part limit:Nat)(w:World)(hs:s.size<=1000000)(hl:lead<=1000000000000)(hm0:0<limit)(hm:limit<=100000000000) :
  Calls Tryz.prog 339 #[.string s,.agg #[.int .i64 lead,.int .i64 part],.int .i64 limit] w (Numbered (numR lead limit s.data.toList) w):=by
 go_enter Tryz.func339,Tryz.ntmps339
 go_wp2
 go_loopw [6,8,9] (fun s6 s8 s9 wr=>NumRel s lead limit (w.alloc (.cells #[.int .i64 lead,.int .i64 part] 353)) s6 s8 s9 wr) (fun _ _ s9 _=>s.size+1-(intOf s9).toNat)
 case atStart=>exact⟨0,1,0,rfl,rfl,rfl,by omega,hm0,by omega,numG_start _ _ _,Below.refl _ _⟩
 case round =>
  obtain⟨acc,weight,j,rfl,rfl,rfl,hj,hac,hwt,hnum,hB⟩:=hrel
  have HNUM:=Lib.hid hnum
  clear hnum
  have hbx:wr.heap[w.heap.size]? = some (.cells #[.int .i64 lead,.int .i64 part] 353 (0,0)):=by
   rw[hB.block w.heap.size (by simp)]
   exact World.alloc_heap_new w _
  obtain⟨c0,c1,_,_⟩:=blk2 hbx
  have hBw:Below w.heap.size w wr:=((Below.refl _ w).alloc (Nat.le_refl _) _).trans (hB.mono (by simp))
  have hszr:=hB.size
  rw[World.size_alloc]at hszr
  clear hbx
  by_cases hlt:j<s.size
  ·have hdrop:s.data.toList.drop j=s[j]::s.data.toList.drop (j+1):=List.drop_eq_getElem_cons (by simpa using hlt)
   have HD:=Lib.hid hdrop
   clear hdrop
   cases hc:worth s[j] with
   | none =>
    have hdg:dig (s[j].toNat:Int) = -1:=by unfold dig;simp[hc]
    have HC:=Lib.hid hc
    clear hc
    go_wp2_with(first|(go_at_call 44;refine (IndexByte_dig _ _).mono ?_;rintro e w1 ⟨rfl,rfl⟩)|fail)
    go_ret2
    exact numbered_mk (a:=0) (b:=0) (by rw[HNUM.out,HD.out,numG_bad HC.out]) hBw
   | some x =>
    have hx36:=(sign_worth hc).2
    have hdg:dig (s[j].toNat:Int)=(x:Int):=by unfold dig;simp[hc]
    have HC:=Lib.hid hc
    clear hc
    have hpb:weight*x<=weight*35:=Nat.mul_le_mul_left _ (by omega)
    have hpi:(x:Int)*(weight:Int)=((weight*x:Nat):Int):=by rw[Nat.mul_comm];simp
    obtain⟨t,ht⟩:∃ t,thr lead (j+1)=t:=⟨_,rfl⟩
    have ht1:=thr_lo lead (j+1)
    have ht2:=thr_hi lead (j+1)
    have ct:∀ u,Calls Tryz.prog 361 #[.agg #[.int .i64 lead,.int .i64 part],.int .i64 ((j:Int)+1)] u fun e w'=>e = .returned (.int .i64 (t:Nat))/\Below u.heap.size u w':=fun u=>by
     rw[<-ht];exact threshold_any lead part (j+1) u (by omega) (by omega)
    rw[ht]at ht1 ht2
    have hpx:1<=x->weight<=weight*x:=fun h=>Nat.le_mul_of_pos_right _ h
    have hqb:weight*(36-t)<=weight*35:=Nat.mul_le_mul_left _ (by omega)
    have hqi:(weight:Int)*((36:Int)-(t:Int))=((weight*(36-t):Nat):Int):=by
     rw[show (36:Int)-(t:Int)=((36-t:Nat):Int) by omega];simp
    obtain⟨p,hp⟩:∃ p,weight*x=p:=⟨_,rfl⟩
    obtain⟨q,hq⟩:∃ q,weight*(36-t)=q:=⟨_,rfl⟩
    rw[hp]at hpb hpi hpx
    rw[hq]at hqb hqi
    have HP:=Lib.hid hp
    have HQ:=Lib.hid hq
    have HT:=Lib.hid ht
    clear hp hq ht
    by_cases hgt:acc+p<limit
    ·by_cases hxt:x<t
     ·go_wp2_with(first
       | (go_at_call 44;refine (IndexByte_dig _ _).mono ?_;rintro e w1 ⟨rfl,rfl⟩)
       | (go_at_call 361;refine (ct _).mono ?_;rintro e w1 ⟨rfl,hB1⟩)
       | fail)
      go_ret2
      exact numbered_mk (a:=acc+p) (b:=j+1) (by rw[HNUM.out,HD.out,numG_last HC.out (by rw[HT.out];exact hxt),HP.out,if_pos hgt]) (hBw.trans (hB1.mono (by omega)))
     ·have hwp:=hpx (by omega)
      go_wp2_with(first
       | (go_at_call 44;refine (IndexByte_dig _ _).mono ?_;rintro e w1 ⟨rfl,rfl⟩)
       | (go_at_call 361;refine (ct _).mono ?_;rintro e w1 ⟨rfl,hB1⟩)
       | fail)
      go_roundw
      case rel =>
       exact⟨acc+p,q,j+1,by go_num,rfl,by go_num,by omega,hgt,by omega,by rw[HNUM.out,HD.out,numG_more HC.out (by rw[HT.out];exact hxt),HP.out,HT.out,HQ.out],hB.trans (hB1.mono (by simp;omega))⟩
      case measure=>simp[intOf];omega
    ·go_wp2_with(first
      | (go_at_call 44;refine (IndexByte_dig _ _).mono ?_;rintro e w1 ⟨rfl,rfl⟩)
      | fail)
     go_ret2
     exact numbered_mk (a:=0) (b:=0) (by rw[HNUM.out,HD.out,numG_great HC.out (by rw[HP.out];exact hgt)]) hBw
  ·obtain rfl:j=s.size:=by omega
   go_wp2
   go_ret2
   exact numbered_mk (a:=0) (b:=0) (by rw[HNUM.out,List.drop_of_length_le (by simp),numG_nil]) hBw
def LastIs (l:List UInt8) (c:UInt8) (r:Int):Prop:=(r = -1/\c ∉ l)∨∃ a b,l=a++c::b/\c ∉ b/\r=(a.length:Int)
def Last (l:List UInt8) (c:Int) (w:World) (e:Ending) (w':World):Prop:=∃ r,e = .returned (.int .i64 r)/\LastIs l (UInt8.ofNat c.toNat) r/\w=w'
theorem last_none{l:List UInt8}{c:UInt8}(h:c ∉ l.drop 0):LastIs l c (-1):=.inl ⟨rfl,by simpa using h⟩
theorem last_some{l:List UInt8}{c:UInt8}{i:Nat}(hi:i<l.length)(he:l[i]=c)(h:c ∉ l.drop (i+1)):LastIs l c i:=by
 refine .inr ⟨l.take i,l.drop (i+1), ?_,h,by rw[List.length_take];omega⟩
 rw[<-he,<-List.drop_eq_getElem_cons hi,List.take_append_drop]
theorem LastIndexByteString_any(s:ByteArray)(c:Int)(w:World)(hs:s.size<=1000000)(hc0:0<=c)(hc:c<=255) :
  Calls Tryz.prog 208 #[.string s,.int .u8 c] w (Last s.data.toList c w):=by
 go_enter Tryz.func208,Tryz.ntmps208
 go_wp2
 go_loop [5] (fun i => ∃ k:Nat,k<=s.size/\i = .int .i64 ((k:Int)-1)/\UInt8.ofNat c.toNat ∉ s.data.toList.drop k) (fun i=>(intOf i+1).toNat)
 case atStart=>exact⟨s.size,Nat.le_refl _,rfl,by rw[List.drop_of_length_le (by simp)];simp⟩
 case round =>
  obtain⟨k,hk,rfl,hnot⟩:=hrel
  have HN:=Lib.hid hnot
  clear hnot
  cases k with
  | zero =>
   go_wp2
   go_ret
   exact⟨-1,rfl,last_none HN.out,rfl⟩
  | succ k =>
   have hlt:k<s.size:=by omega
   have hkk:(((k+1:Nat):Int)-1)=(k:Int):=by omega
   rw[hkk]
   clear hkk
   by_cases he:(s[k].toNat:Int)=c
   ·have HE:=Lib.hid he
    have hq:((s[k].toNat:Int)==c)=true:=by simpa using he
    clear he
    go_wp2
    go_ret
    refine⟨k,rfl,last_some (by simpa using hlt) ?_ HN.out,rfl⟩
    rw[<-HE.out]
    simp
    rfl
   ·have HE:=Lib.hid he
    have hq:((s[k].toNat:Int)==c)=false:=by simpa using he
    clear he
    go_wp2
    go_round
    case rel =>
     refine⟨k,by omega,by go_num, ?_⟩
     rw[List.drop_eq_getElem_cons (by simpa using hlt),List.mem_cons]
     rintro (h|h)
     ·refine HE.out ?_
      have:=congrArg UInt8.toNat h
      simp at this
      have e3:s.data[k]=s[k]:=rfl
      rw[e3]at this
      omega
     ·exact HN.out h
    case measure=>simp[intOf]
theorem LastIndexByte_any(s:ByteArray)(c:Int)(w:World)(hs:s.size<=1000000)(hc0:0<=c)(hc:c<=255) :
  Calls Tryz.prog 337 #[.string s,.int .u8 c] w (Last s.data.toList c w):=by
 go_enter Tryz.func337,Tryz.ntmps337
 go_wp2_with(first|(go_at_call 208;refine (LastIndexByteString_any _ _ _ hs hc0 hc).mono ?_;rintro e w' ⟨r,rfl,hr,rfl⟩)|fail)
 go_ret
 exact⟨_,rfl,hr,rfl⟩
def PartsIs (l basic digits:List UInt8) (ok:Bool):Prop :=
 (45 ∉ l/\basic=[]/\digits=l/\ok=true) ∨
 ∃ a b,l=a++45::b/\45 ∉ b/\(((∃ x∈a,128<=x.toNat)/\basic=[]/\digits=[]/\ok=false)∨((∀ x∈a,x.toNat<128)/\basic=a/\digits=b/\ok=decide (0<a.length)))
def Parted (l:List UInt8) (w:World) (e:Ending) (w':World):Prop :=
 ∃ b d ok,e = .returned (.tuple #[.string b,.string d,.bool ok])/\PartsIs l b.data.toList d.data.toList ok/\∃ q,w'=w.drewN q
theorem ext_take(s:ByteArray)(i:Nat):(s.extract 0 i).data.toList=s.data.toList.take i:=by simp[ByteArray.data_extract]
theorem ext_drop(s:ByteArray)(i j:Nat)(h:j=s.size):(s.extract i j).data.toList=s.data.toList.drop i:=by
 subst h
 simp[ByteArray.data_extract]
 exact List.take_of_length_le (by simp)
theorem get_of{s:ByteArray}{a t:List UInt8}(hl:s.data.toList=a++t){k:Nat}(hk:k<a.length)(h:k<s.size):s[k]=a[k]:=by
 have e:s[k]=s.data.toList[k]'(by simpa using h):=by simp;rfl
 rw[e,List.getElem_of_eq hl,List.getElem_append_left hk]
theorem parted_mk{l bl dl:List UInt8}{b d:ByteArray}{ok:Bool}{w w':World}(hb:b.data.toList=bl)(hd:d.data.toList=dl)(h:PartsIs l bl dl ok)(hw:∃ q,w'=w.drewN q):Parted l w (.returned (.tuple #[.string b,.string d,.bool ok])) w' :=
 ⟨b,d,ok,rfl,by rw[hb,hd];exact h,hw⟩
theorem parts_any(s:ByteArray)(w:World)(hs:s.size<=1000000):Calls Tryz.prog 305 #[.string s] w (Parted s.data.toList w):=by
 go_enter Tryz.func305,Tryz.ntmps305
 go_wp2_with fail
 refine (LastIndexByte_any _ _ _ hs (by omega) (by omega)).mono ?_
 rintro e w' ⟨r,rfl,hr,rfl⟩
 rcases hr with ⟨rfl,hno⟩|⟨a,b,hl,hb,rfl⟩
 ·have HN:=Lib.hid hno
  clear hno
  go_wp2
  go_ret3
  exact parted_mk rfl rfl (.inl ⟨HN.out,rfl,rfl,rfl⟩) ⟨0,rfl⟩
 ·have hsz:a.length<s.size:=by
   have:s.data.toList.length=s.size:=by simp
   rw[<-this,hl];simp
  have HL:=Lib.hid hl
  have HB:=Lib.hid hb
  clear hl hb
  go_wp2
  go_loop [13] (fun i => ∃ k:Nat,k<=a.length/\i = .int .i64 k/\∀ x∈a.take k,x.toNat<128) (fun i=>a.length-(intOf i).toNat)
  case atStart=>exact⟨0,by omega,rfl,by simp⟩
  case round =>
   obtain⟨k,hk,rfl,hall⟩:=hrel
   have HA:=Lib.hid hall
   clear hall
   by_cases hlt:k<a.length
   ·have hks:k<s.size:=by omega
    have hg:=get_of HL.out hlt hks
    have HG:=Lib.hid hg
    clear hg
    by_cases hbig:128<=(s[k].toNat:Int)
    ·go_wp2
     go_ret3
     exact parted_mk (bl:=[]) (dl:=[]) rfl rfl (.inr ⟨a,b,HL.out,HB.out,.inl ⟨⟨a[k],List.getElem_mem hlt,by rw[<-HG.out];omega⟩,rfl,rfl,rfl⟩⟩) ⟨0,rfl⟩
    ·go_wp2
     go_round
     case rel =>
      refine⟨k+1,by omega,by go_num,fun x hx => ?_⟩
      rw[List.take_succ_eq_append_getElem hlt]at hx
      rcases List.mem_append.1 hx with hx|hx
      ·exact HA.out x hx
      ·rw[List.mem_singleton.1 hx,<-HG.out];omega
     case measure=>simp[intOf];omega
   ·obtain rfl:k=a.length:=by omega
    have h1:0<=(a.length:Int):=by omega
    have h2:(a.length:Int)<=s.size:=by omega
    have h3:(a.length:Int)+1<=s.size:=by omega
    go_wp2
    go_quiet (fail)
    go_wp2
    go_ret3
    refine parted_mk (bl:=a) (dl:=b) ?_ ?_ (.inr ⟨a,b,HL.out,HB.out,.inr ⟨by simpa using HA.out,rfl,rfl, ?_⟩⟩) ⟨_,rfl⟩
    ·rw[ext_take,HL.out,List.take_left]
    ·rw[ext_drop _ _ _ rfl,HL.out,List.drop_append,List.drop_of_length_le (by omega),List.nil_append,show a.length+1-a.length=1 by omega];rfl
    ·rfl
end Go.Proofs.YtkibdkfdffkkfaaGreatDoor.Pn
