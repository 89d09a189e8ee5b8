import Derived.Test.YtkibdkfdffkkfaaGreatDoorPk26
import Derived.Test.YtkibdkfdffkkfaaGreatDoorPk27
import Derived.Sort.LoopGhostIn
set_option maxRecDepth 100000
set_option maxHeartbeats 8000000
namespace Go.Proofs.YtkibdkfdffkkfaaGreatDoor.Pn
open Go.RowKit Go.Shelf Puny
attribute [local go_sem] Oper.semAt_some
def encs (d:Nat):Array Value:=#[.int .i64 (d:Int)]
theorem own_of_heap{w w':World}{base:Nat}{e:TypeId}{size n:Nat}{v:Value}{xs:List Value}(h:w.ownsRow base e size v n xs)(hk:∀ j,v.ownBlock=some j->w'.heap[j]? = w.heap[j]?):w'.ownsRow base e size v n xs:=by
 refine⟨h.1, ?_⟩
 rcases h.2 with h2|⟨g,cap,cur,hv,hb,hg,h3,h4,h5,h6⟩
 ·exact .inl h2
 ·refine .inr ⟨g,cap,cur,hv,hb, ?_,h3,h4,h5,h6⟩
  subst hv
  rw[hk g rfl,hg]
theorem _root_.Go.Proofs.YtkibdkfdffkkfaaGreatDoor.Row.keepBlocks{w w':World}{B:Nat}{A:Option Addr}{xs:List Value}(h:Row w B A xs)(hk:∀ j,j<B->w'.heap[j]? = w.heap[j]?):Row w' B A xs :=
 h.keep fun b o hb=>World.cell?_of_block (a:=⟨b,o,none⟩) (hk b hb)
theorem deltas_any(A:Option Addr)(len cap:Nat)(h:Int)(w:World)(n:Nat) :
  CallsIn Fence.wide n Tryz.prog 315 #[.slice A len cap,.int .i64 h] w fun e w' =>
   e = .returned (.func (.func 359) #[] #[.pointer (some ⟨w.heap.size,0,none⟩),.pointer (some ⟨w.heap.size+1,0,none⟩)]) /\
   w'=(w.alloc (.cells #[.slice A len cap] 22)).alloc (.cells #[.int .i64 h] 2):=by
 refine callsIn_of_wp Tryz.func315 rfl trivial ?_ rfl
 simp only[Tryz.ntmps315,List.size_toArray,List.length_cons,List.length_nil,Nat.reduceAdd,Nat.reduceSub,Array.replicate_succ,Array.replicate_zero,List.push_toArray,List.append_toArray,List.nil_append,List.cons_append]
 gi_wp2
 go_ret
 exact⟨rfl,rfl⟩
def ItW (l:List Nat) (A:Option Addr) (len cap n0 Bl base H:Nat) (v:Value) (h:Nat) (W:World):Prop :=
 Row W n0 A (cn l)/\W.heap[Bl]? = some (.cells #[.slice A len cap] 22 (0,0))/\W.heap[Bl+1]? = some (.cells #[.int .i64 (h:Int)] 2 (0,0)) /\
 W.ownsRow base 21 1 v (ms l).length (cn (ms l))/\(∀ j,v.ownBlock=some j->j<H)/\H<=W.heap.size
theorem ItW.kept{l:List Nat}{A:Option Addr}{len cap n0 n1 D Bl base H:Nat}{v:Value}{h:Nat}{W W':World}(hw:ItW l A len cap n0 Bl base H v h W)(hk:Kept n0 n1 D H W W')(hB1:n1<=Bl)(hB2:Bl+1<D)(hbD:base=D+2)(hH:D+2<=H) :
  ItW l A len cap n0 Bl base H v h W':=by
 obtain⟨h1,h2,h3,h4,h5,h6⟩:=hw
 refine⟨h1.keepBlocks (fun j hj=>hk.2 j (.inl hj)),(hk.2 Bl (.inr ⟨by omega,by omega,by omega,by omega⟩)).trans h2,(hk.2 (Bl+1) (.inr ⟨by omega,by omega,by omega,by omega⟩)).trans h3,
  own_of_heap h4 (fun j hj=>hk.2 j (.inr ?_)),h5,Nat.le_trans h6 hk.1⟩
 have:=h4.lt j hj
 have:=h5 j hj
 exact⟨by omega,by omega,by omega,by omega⟩
theorem ItW.count{l:List Nat}{A:Option Addr}{len cap n0 Bl base H:Nat}{v:Value}{h:Nat}{W:World}(hw:ItW l A len cap n0 Bl base H v h W)(x:Nat)(hn0:n0<=Bl)(hb:Bl+2<base) :
  ItW l A len cap n0 Bl base H v x (W.setCell ⟨Bl+1,0,none⟩ (.int .i64 (x:Int))):=by
 obtain⟨h1,h2,h3,h4,h5,h6⟩:=hw
 have hg:=grownBy_setCell' W (Bl+1) (.int .i64 (x:Int))
 have hlt:=(Array.getElem?_eq_some_iff.1 h3).1
 refine⟨h1.keepBlocks (fun j hj => ?_), ?_, ?_,own_of_heap h4 (fun j hj => ?_),h5,Nat.le_trans h6 hg.size⟩
 ·by_cases hj2:j<W.heap.size
  ·exact hg.block j hj2 (by simp;omega)
  ·exact absurd hlt (by omega)
 ·exact (hg.block Bl (Array.getElem?_eq_some_iff.1 h2).1 (by simp)).trans h2
 ·simp[World.setCell,Array.getElem?_modify,h3]
 ·have h7:=h4.lt j hj
  exact hg.block j h7.2 (by simp;omega)
def ORel (l:List Nat) (A:Option Addr) (len cap n0 Bl base H:Nat) (v:Value) (J:Nat->List Nat->World->Prop) (s4 s5 s14:Value) (wr:World):Prop :=
 ∃ a n i : Nat, a ≤ (ms l).length ∧ s14 = .int .i64 a ∧ s4 = .int .i64 n ∧ s5 = .int .i64 i ∧ fin (eat l a) 128 0 = (n, i) ∧ (∀ y ∈ (ms l).drop a, n < y ∨ n ≤ y ∧ i = 0) ∧ i ≤ hat l a ∧ hat l a = (basics l).length + (eat l a).length ∧
  J H (dels (eat l a) (basics l).length 128 0) wr/\ItW l A len cap n0 Bl base H v (hat l a) wr
def IRel (l:List Nat) (A:Option Addr) (len cap n0 Bl base H:Nat) (v:Value) (J:Nat->List Nat->World->Prop) (a m:Nat) (s4 s5 s8 s20:Value) (wr:World):Prop :=
 ∃ b n i p q : Nat, b ≤ len ∧ s20 = .int .i64 b ∧ s8 = .int .i64 p ∧ s4 = .int .i64 n ∧ s5 = .int .i64 i ∧ Hid (pat l m b = p) ∧ Hid (qat l m b = q) ∧ Hid (fin (eat l a ++ scan m (l.take b) 0) 128 0 = (n, i)) ∧
  n<=m/\(n<m/\i<=p+q∨n=m/\i<=p)/\p+q<=len/\Hid (p+q=(basics l).length+(eat l a++scan m (l.take b) 0).length) /\
  Hid (J H (dels (eat l a++scan m (l.take b) 0) (basics l).length 128 0) wr)/\ItW l A len cap n0 Bl base H v (p+q) wr
theorem deltas1_in(N:Nat)(hS:SortOk N)(hN:N<=100000)(n:Nat)(hn:1<=n)(n0 n1 D Bl:Nat)(A:Option Addr)(len cap:Nat)(l:List Nat)(hlen:l.length=len)(ho:(oth l len).length<=N)(hm:len<=2000)(hsc:∀ x∈l,x<=1114111)
  (hnn:n0<=n1) (hB1:n1<=Bl) (hB2:Bl+1<D) (W0:World) (hW0:W0.heap.size=D+2) (hr:Row W0 n0 A (cn l))
  (hbl:W0.heap[Bl]? = some (.cells #[.slice A len cap] 22 (0,0))) (hbh:W0.heap[Bl+1]? = some (.cells #[.int .i64 ((basics l).length:Int)] 2 (0,0))) :
  Iter Fence.wide n Tryz.prog 359 #[.pointer (some ⟨Bl,0,none⟩),.pointer (some ⟨Bl+1,0,none⟩)] encs n0 n1 D (fun _ d=>d<=3000000000) (fun xs=>xs=deltas l) (fun _=>True) len W0:=by
 intro J Jx hJ hY h0
 have hml:(ms l).length<=2000:=Nat.le_trans (ms_len l) (by omega)
 have HLEN:=Lib.hid hlen
 have HSC:=Lib.hid hsc
 have HJ:=Lib.hid hJ
 have HY:=Lib.hid hY
 have hoth:=others_any N hS hN l A len cap W0 hlen ho (by omega) (hr.mono (by omega))
 have HO:=Lib.hid hoth
 have HR:=Lib.hid hr
 have HB:=Lib.hid hbl
 have HH:=Lib.hid hbh
 have H0:=Lib.hid h0
 have c1:W0.cell? ⟨Bl,0,none⟩=some (.slice A len cap):=by simp[World.cell?,hbl]
 clear hlen hsc hJ hY hoth hS hr hbl hbh h0
 refine callsIn_of_wp Tryz.func359 rfl trivial ?_ rfl
 simp only[Tryz.ntmps359,List.size_toArray,List.length_cons,List.length_nil,Nat.reduceAdd,Nat.reduceSub,Array.replicate_succ,Array.replicate_zero,List.push_toArray,List.append_toArray,List.nil_append,List.cons_append]
 gi_wp2_with fail
 refine⟨trivial,(callsIn_wide.2 HO.out).mono ?_⟩
 rintro e W1 ⟨v,rfl,hown,hB⟩
 clear c1
 obtain⟨g,mc,rfl⟩:∃ g mc,v = .slice g (ms l).length mc:=by
  rcases hown.2 with ⟨hv,h0⟩|⟨g,c,cur,hv,_⟩
  ·exact⟨none,0,by rw[hv,h0]⟩
  ·exact⟨_,_,hv⟩
 have hsz:=hB.size
 have hit:ItW l A len cap n0 Bl W0.heap.size W1.heap.size (.slice g (ms l).length mc) (hat l 0) W1:=by
  refine⟨HR.out.below (hB.mono (by omega)),(hB.block Bl (by omega)).trans HB.out, ?_,hown,fun j hj=>(hown.lt j hj).2,Nat.le_refl _⟩
  rw[hat_zero];exact (hB.block (Bl+1) (by omega)).trans HH.out
 have hJ0:J W1.heap.size [] W1:=HJ.out _ [] W0 W1 none (H0.out _ hsz) ⟨hB.os,hB.tape,hB.output,hB.size,fun j hj _=>hB.block j hj⟩ (fun r e=>by cases e)
 obtain⟨H,hH⟩:∃ H,W1.heap.size=H:=⟨_,rfl⟩
 rw[hH]at hit hJ0 hsz
 clear hown hB
 gi_wp2
 gi_loopw [4,5,14] (fun s4 s5 s14 wr=>ORel l A len cap n0 Bl W0.heap.size H (.slice g (ms l).length mc) J s4 s5 s14 wr) (fun _ _ s14 _=>(ms l).length-(intOf s14).toNat)
 case atStart =>
  exact⟨0,128,0,Nat.zero_le _,rfl,rfl,rfl,rfl,fun y hy => .inr ⟨((ms_mem l y).1 (List.mem_of_mem_drop hy)).2,rfl⟩,Nat.zero_le _,by rw[hat_zero];rfl,hJ0,hit⟩
 case round =>
  obtain⟨a,n,i,ha,rfl,rfl,rfl,hfin,hny,hih,hhat,hJs,hit⟩:=hrel
  clear hJ0
  by_cases hlt:a<(ms l).length
  ·have hrow:=(Row.of_own hit.2.2.2.1)
   obtain⟨gb,go,rfl,hgb,hgc⟩:=hrow.at_ (by simp;omega)
   have hcm:=hgc a (by simpa using hlt)
   rw[cn_get _ _ hlt]at hcm
   have c1:wr.cell? ⟨Bl,0,none⟩=some (.slice A len cap):=by simp[World.cell?,hit.2.1]
   have hs0:=hat_start l hlt
   have hd0:=hat_done l hlt
   have he0:=eat_step l hlt
   have hmm:=(ms_mem l _).1 (List.getElem_mem hlt)
   have hny1:=hny _ (by rw[drop_cons hlt];exact List.mem_cons_self ..)
   have hnext:∀ y∈(ms l).drop (a+1),(ms l)[a]<y:=by
    have hp:=(ms_rise l).drop (i:=a)
    rw[drop_cons hlt,List.pairwise_cons]at hp
    exact hp.1
   obtain⟨m,hmeq⟩:∃ m,(ms l)[a]=m:=⟨_,rfl⟩
   rw[hmeq]at hcm hs0 hd0 he0 hmm hny1 hnext
   have hmax:=HSC.out m hmm.1
   have HNEXT:=Lib.hid hnext
   have HS0:=Lib.hid hs0
   have HD0:=Lib.hid hd0
   have HE0:=Lib.hid he0
   have HFIN:=Lib.hid hfin
   have HHAT:=Lib.hid hhat
   have HJS:=Lib.hid hJs
   have HIT:=Lib.hid hit
   clear hrow hgc hnext hs0 hd0 he0 hfin hhat hJs hit hny hmeq
   gi_wp2
   gi_loopw [4,5,8,20] (fun s4 s5 s8 s20 wr2=>IRel l A len cap n0 Bl W0.heap.size H (.slice (some ⟨gb,go,none⟩) (ms l).length mc) J a m s4 s5 s8 s20 wr2) (fun _ _ _ s20 _=>len-(intOf s20).toNat)
   case atStart =>
    refine⟨0,n,i,0,hat l a,Nat.zero_le _,rfl,rfl,rfl,rfl,Lib.hid (by simp[pat]),Lib.hid (by rw[HS0.out];simp[pat]),Lib.hid (by simpa[scan] using HFIN.out),by omega,by omega, ?_,Lib.hid (by rw[HHAT.out];simp[scan]),Lib.hid (by simpa[scan] using HJS.out),by simpa using HIT.out⟩
    have:=pq_le l m 0 (Nat.zero_le _)
    rw[HS0.out,<-HLEN.out];simpa[pat] using this
   case round =>
    obtain⟨b,n,i,p,q,hb,rfl,rfl,rfl,rfl,HP,HQ,HF,hnm,hni,hpq,HE,HJ2,hit⟩:=hrel
    by_cases hlb:b<len
    ·have hbl:b<l.length:=by rw[HLEN.out];exact hlb
     obtain⟨lb,lo,rfl,hlb0,hlc⟩:=hit.1.at_ (by simp;omega)
     have hcr:=hlc b (by simpa using hbl)
     rw[cn_get _ _ hbl]at hcr
     have hst:=scan_take (m:=m) hbl
     have hpl:=pat_le_step (m:=m) hbl
     have hpg:=pat_gt_step (m:=m) hbl
     have hql:=qat_lt_step (m:=m) hbl
     have hqg:=qat_ge_step (m:=m) hbl
     have hpq1:=pq_le l m (b+1) (by omega)
     rw[HP.out]at hst hpl hpg
     rw[HQ.out]at hql hqg
     rw[HLEN.out]at hpq1
     obtain⟨r,hrq⟩:∃ r,l[b]=r:=⟨_,rfl⟩
     rw[hrq]at hcr hst hpl hpg hql hqg
     obtain⟨h,hh⟩:∃ h,p+q=h:=⟨_,rfl⟩
     rw[hh]at hit hpq hni HE
     have HST:=Lib.hid hst
     clear hst hrq hlc hgb
     rcases Nat.lt_trichotomy r m with hrm|hrm|hrm
     ·have hne:((r:Int)==(m:Int))=false:=by simp;omega
      have hp1:=hpl (by omega)
      have hq1:=hql hrm
      have HP1:=Lib.hid hp1
      have HQ1:=Lib.hid hq1
      rw[hp1]at hpq1
      clear hpl hpg hql hqg hp1 hq1
      gi_wp2
      go_roundw
      case rel =>
       refine⟨b+1,n,i,p+1,qat l m (b+1),by omega,by go_num,by go_num,rfl,rfl,Lib.hid HP1.out,Lib.hid rfl, ?_,hnm, ?_,by have:=HQ1.out;omega, ?_, ?_, ?_⟩
       ·exact Lib.hid (by rw[HST.out,if_neg (by omega),List.append_nil];exact HF.out)
       ·have:=HQ1.out;omega
       ·exact Lib.hid (by have:=HQ1.out;rw[HST.out,if_neg (by omega),List.append_nil,<-HE.out];omega)
       ·exact Lib.hid (by rw[HST.out,if_neg (by omega),List.append_nil];exact HJ2.out)
       ·rw[show p+1+qat l m (b+1)=h by have:=HQ1.out;omega];exact hit
      case measure=>simp[intOf];omega
     ·subst hrm
      have hp1:=hpl (Nat.le_refl _)
      have hq1:=hqg (Nat.lt_irrefl _)
      have HP1:=Lib.hid hp1
      have HQ1:=Lib.hid hq1
      rw[hp1,<-hq1]at hpq1
      clear hpl hpg hql hqg hp1 hq1
      have hst2:eat l a++scan r (l.take (b+1)) 0=(eat l a++scan r (l.take b) 0)++[(r,p)]:=by rw[HST.out,if_pos rfl,List.append_assoc]
      have hdl:=dels_snoc (eat l a++scan r (l.take b) 0) (basics l).length 128 0 r p
      have hfs:=fin_snoc (eat l a++scan r (l.take b) 0) 128 0 r p
      have hls:(eat l a++scan r (l.take (b+1)) 0).length=(eat l a++scan r (l.take b) 0).length+1:=by rw[hst2];simp;omega
      have hel:=dels_len (eat l a++scan r (l.take b) 0) (basics l).length 128 0
      rw[HF.out,<-HE.out]at hdl
      rw[<-hst2]at hdl hfs
      dsimp only at hdl
      have hub:(r-n)*(h+1)<=1114111*(h+1):=Nat.mul_le_mul_right _ (by omega)
      have hul:n<r->h+1<=(r-n)*(h+1):=fun hx=>Nat.le_mul_of_pos_left _ (by omega)
      have hui:((r:Int)-(n:Int))*((h:Int)+1)=(((r-n)*(h+1):Nat):Int):=by
       rw[show (r:Int)-(n:Int)=((r-n:Nat):Int) by omega,show (h:Int)+1=((h+1:Nat):Int) by omega,Int.natCast_mul]
      obtain⟨u,hu⟩:∃ u,(r-n)*(h+1)=u:=⟨_,rfl⟩
      rw[hu]at hub hul hui hdl
      have hdi:(u:Int)+(p:Int)-(i:Int)=((u+p-i:Nat):Int):=by omega
      obtain⟨d,hd⟩:∃ d,u+p-i=d:=⟨_,rfl⟩
      rw[hd]at hdi hdl
      have HDL:=Lib.hid hdl
      have HFS:=Lib.hid hfs
      have HLS:=Lib.hid hls
      obtain⟨fn,tmps,assign,body,hy,hR⟩:=HY.out H _ d wr hsz hit.2.2.2.2.2 HJ2.out (by rw[hel];have:=HE.out;omega) (by omega)
      simp only[encs]at hy
      have c2:wr.cell? ⟨Bl+1,0,none⟩=some (.int .i64 (h:Int)):=by simp[World.cell?,hit.2.2.1]
      have HIT2:=Lib.hid hit
      clear hst2 hdl hfs hls hel hu hd hit hul
      gi_wp2
      refine hR.mono ?_
      rintro e W3 (⟨rfl,hJ3,hk3⟩|⟨rfl,hJx3⟩)
      ·have hit3:=HIT2.out.kept hk3 hB1 hB2 hW0 (by omega)
       have c3:W3.cell? ⟨Bl+1,0,none⟩=some (.int .i64 (h:Int)):=by simp[World.cell?,hit3.2.2.1]
       have f3:W3.frozen? ⟨Bl+1,0,none⟩=false:=by simp[World.frozen?,hit3.2.2.1]
       have hJ4:=HJ.out H _ W3 _ (some (Bl+1)) hJ3 (grownBy_setCell' W3 (Bl+1) (.int .i64 ((h+1:Nat):Int))) (fun x e=>by cases e;exact⟨by omega,by omega,by omega,by omega⟩)
       have hit4:=hit3.count (h+1) (by omega) (by omega)
       have HJ4:=Lib.hid hJ4
       have HIT4:=Lib.hid hit4
       clear hit3 hJ3 hJ4 hit4 hk3
       gi_wp2
       go_roundw
       case rel =>
        refine⟨b+1,r,p+1,p+1,q,by omega,by go_num,by go_num,rfl,by go_num,Lib.hid HP1.out,Lib.hid HQ1.out.symm,Lib.hid HFS.out,Nat.le_refl _,.inr ⟨rfl,Nat.le_refl _⟩,by omega, ?_, ?_, ?_⟩
        ·exact Lib.hid (by rw[HLS.out,show p+1+q=h+1 by omega,HE.out];omega)
        ·refine Lib.hid ?_
         rw[HDL.out]
         exact HJ4.out
        ·rw[show p+1+q=h+1 by omega]
         exact HIT4.out
       case measure=>simp[intOf];omega
      ·gi_wp2
       refine bodyPost_ret (results_none rfl _ _ _) rfl ?_
       exact⟨⟨_,rfl⟩,.inr ⟨_,trivial,hJx3⟩⟩
     ·have hne:((r:Int)==(m:Int))=false:=by simp;omega
      have hp1:=hpg (by omega)
      have hq1:=hqg (by omega)
      have HP1:=Lib.hid hp1
      have HQ1:=Lib.hid hq1
      clear hpl hpg hql hqg hp1 hq1
      gi_wp2
      go_roundw
      case rel =>
       refine⟨b+1,n,i,p,q,by omega,by go_num,by go_num,rfl,rfl,Lib.hid HP1.out,Lib.hid HQ1.out.symm, ?_,hnm,by omega,by omega, ?_, ?_, ?_⟩
       ·exact Lib.hid (by rw[HST.out,if_neg (by omega),List.append_nil];exact HF.out)
       ·exact Lib.hid (by rw[HST.out,if_neg (by omega),List.append_nil,hh];exact HE.out)
       ·exact Lib.hid (by rw[HST.out,if_neg (by omega),List.append_nil];exact HJ2.out)
       ·rw[hh];exact hit
      case measure=>simp[intOf];omega
    ·obtain rfl:b=len:=by omega
     have HT:=Lib.hid (show l.take b=l by rw[List.take_of_length_le (by rw[HLEN.out];exact Nat.le_refl _)])
     have HD1:=Lib.hid (show hat l (a+1)=p+q by have:=HD0.out;rw[HLEN.out,HP.out,HQ.out]at this;exact this)
     gi_wp2
     go_roundw
     case rel =>
      refine⟨a+1,n,i,by omega,by go_num,rfl,rfl, ?_,fun y hy => .inl (by have:=HNEXT.out y hy;omega),by rw[HD1.out];omega, ?_, ?_, ?_⟩
      ·have:=HF.out;rw[HT.out]at this;rw[HE0.out];exact this
      ·have:=HE.out;rw[HT.out]at this;rw[HE0.out,HD1.out];exact this
      ·have:=HJ2.out;rw[HT.out]at this;rw[HE0.out];exact this
      ·rw[HD1.out];exact hit
     case measure=>simp[intOf];omega
  ·obtain rfl:a=(ms l).length:=by omega
   gi_wp2
   go_end0
   refine⟨⟨_,rfl⟩,.inl ⟨H,_,by omega, ?_,hJs⟩⟩
   rw[eat_all];rfl
end Go.Proofs.YtkibdkfdffkkfaaGreatDoor.Pn
namespace Puny
def bias:List Nat->Nat->Nat->Nat->Nat × Nat
 | [],_,lead,part=>(lead,part)
 | d::ds,h,_,part=>bias ds (h+1) (next d part (h+1)) 2
theorem encD_snoc:∀ (ds:List Nat) (h lead part d:Nat),encD (ds++[d]) h lead part=encD ds h lead part++digs (bias ds h lead part).1 1 d
 | [],h,lead,part,d=>by simp[encD,bias]
 | x::ds,h,lead,part,d=>by rw[List.cons_append,encD,encD,encD_snoc,bias,List.append_assoc]
theorem bias_snoc:∀ (ds:List Nat) (h lead part d:Nat),bias (ds++[d]) h lead part=(next d (bias ds h lead part).2 (h+ds.length+1),2)
 | [],h,lead,part,d=>by simp[bias]
 | x :: ds, h, lead, part, d => by
  rw[List.cons_append,bias,bias,bias_snoc,List.length_cons,show h+1+ds.length+1=h+(ds.length+1)+1 by omega]
theorem adapt_le(d k:Nat):adapt d k<=d+k+36:=by
 fun_induction adapt d k with
 | case1 d k h ih=>omega
 | case2 d k h =>
  have:36*d/(d+38)<=36:=by
   rw[Nat.div_le_iff_le_mul (by omega)]
   omega
  omega
theorem next_le(d part h:Nat):next d part h<=2*d+36:=by
 unfold next
 have h1:=adapt_le (d/part+d/part/h) 0
 have h2:=Nat.div_le_self d part
 have h3:=Nat.div_le_self (d/part) h
 omega
theorem digs_len(lead:Nat):∀ (e k d:Nat),d<10 ^ e->(digs lead k d).length<=e+1
 | 0, k, d, h => by
  have:=thr_lo lead k
  rw[digs_last (by simp at h;omega)];simp
 | e + 1, k, d, h => by
  by_cases hlt:d<thr lead k
  ·rw[digs_last hlt];simp
  ·have h1:=thr_hi lead k
   have h2:(d-thr lead k)/(36-thr lead k)<=(d-thr lead k)/10:=Nat.div_le_div_left (by omega) (by omega)
   have h3:(d-thr lead k)/10<10 ^ e:=by
    rw[Nat.div_lt_iff_lt_mul (by omega)]
    rw[Nat.pow_succ]at h
    omega
   rw[digs_more hlt,List.length_cons]
   have:=digs_len lead e (k+1) _ (Nat.lt_of_le_of_lt h2 h3)
   omega
theorem digs_len10(lead k d:Nat)(h:d<=3000000000):(digs lead k d).length<=11:=digs_len lead 10 k d (by omega)
end Puny
namespace Go.Proofs.YtkibdkfdffkkfaaGreatDoor.Pn
open Go.RowKit Go.Shelf Puny
def Free (S:Nat->Prop) (W W':World):Prop:=W'.os=W.os/\W'.tape=W.tape/\W'.output=W.output/\W.heap.size<=W'.heap.size/\∀ j,j<W.heap.size->¬ S j->W'.heap[j]? = W.heap[j]?
theorem Free.refl(S:Nat->Prop)(W:World):Free S W W:=⟨rfl,rfl,rfl,Nat.le_refl _,fun _ _ _=>rfl⟩
theorem Free.trans{S S':Nat->Prop}{A B C:World}(h:Free S A B)(k:Free S' B C)(hs:∀ j,j<A.heap.size->S' j->S j):Free S A C :=
 ⟨k.1.trans h.1,k.2.1.trans h.2.1,k.2.2.1.trans h.2.2.1,Nat.le_trans h.2.2.2.1 k.2.2.2.1,fun j hj hn=>(k.2.2.2.2 j (Nat.lt_of_lt_of_le hj h.2.2.2.1) (fun e=>hn (hs j hj e))).trans (h.2.2.2.2 j hj hn)⟩
theorem Free.of_grown{A B:World}{row:Option Nat}(h:A.grownBy B row):Free (fun j=>row=some j) A B:=⟨h.os,h.tape,h.output,h.size,fun j hj hn=>h.block j hj (fun e=>hn e.symm)⟩
theorem Free.store(W:World)(B:Nat)(v:Value):Free (fun j=>j=B) W (W.setCell ⟨B,0,none⟩ v):=by
 have h:=grownBy_setCell' W B v
 exact⟨h.os,h.tape,h.output,h.size,fun j hj hn=>h.block j hj (fun e=>hn (by cases e;rfl))⟩
theorem Free.store1(W:World)(B:Nat)(v:Value):Free (fun j=>j=B) W (W.setCell ⟨B,1,none⟩ v):=by
 refine⟨rfl,rfl,rfl,by simp,fun j hj hn => ?_⟩
 simp[World.setCell,Array.getElem?_modify]
 intro e;exact absurd e.symm hn
theorem Free.below{S:Nat->Prop}{A B:World}{n:Nat}(h:Free S A B)(hn:n<=A.heap.size)(hs:∀ j,j<n->¬ S j):Below n A B :=
 ⟨h.1,h.2.1,h.2.2.1,h.2.2.2.1,fun j hj=>h.2.2.2.2 j (by omega) (hs j hj)⟩
abbrev cb (l:List Nat):List Value:=l.map fun n:Nat=>Value.int .u8 (n:Int)
def bas (l:List Nat) (k:Nat):List Nat:=Puny.basics (l.take k)
theorem bas_yes{l:List Nat}{k:Nat}(hk:k<l.length)(h:l[k]<128):bas l (k+1)=bas l k++[l[k]]:=by
 unfold bas Puny.basics;rw[List.take_succ_eq_append_getElem hk,List.filter_append];simp[h]
theorem bas_no{l:List Nat}{k:Nat}(hk:k<l.length)(h:¬ l[k]<128):bas l (k+1)=bas l k:=by
 unfold bas Puny.basics;rw[List.take_succ_eq_append_getElem hk,List.filter_append,List.filter_cons,if_neg (by simpa using h)];simp
theorem bas_len(l:List Nat)(k:Nat):(bas l k).length<=l.length:=Nat.le_trans (List.length_filter_le _ _) (by rw[List.length_take];omega)
def Based (l:List Nat) (w:World) (e:Ending) (w':World):Prop :=
 ∃ v,e = .returned v/\w'.ownsRow w.heap.size 5 1 v (Puny.basics l).length (cb (Puny.basics l))/\Below w.heap.size w w'
theorem basics_any(l:List Nat)(A:Option Addr)(n c:Nat)(w:World)(hn:l.length=n)(hm:n<=100000)(hr:Row w w.heap.size A (cn l)) :
  Calls Tryz.prog 313 #[.slice A n c] w (Based l w):=by
 obtain⟨i0,hi,hz0,hz1,hz2⟩:=info_parts info_u8
 have HN:=Lib.hid hn
 clear hn
 go_enter Tryz.func313,Tryz.ntmps313
 go_wp2
 go_loopw [3,8] (fun o i wr => ∃ k:Nat,k<=n/\i = .int .i64 k/\wr.ownsRow w.heap.size 5 1 o (bas l k).length (cb (bas l k))/\Below w.heap.size w wr) (fun _ i _=>n-(intOf i).toNat)
 case atStart=>exact⟨0,Nat.zero_le _,rfl,by simpa[bas,Puny.basics] using World.ownsRow_nil _ _ _ _,Below.refl _ _⟩
 case round =>
  obtain⟨k,hk,rfl,hown,hB⟩:=hrel
  have hsz:=hB.size
  by_cases hlt:k<n
  ·have hkl:k<l.length:=by rw[HN.out];exact hlt
   obtain⟨b,off,rfl,hb,hc⟩:=(hr.below hB).at_ (by simp;omega)
   have hcell:=hc k (by simp;omega)
   rw[cn_get _ _ hkl]at hcell
   have hol:=bas_len l k
   rw[HN.out]at hol
   have HC:=Lib.hid hc
   have HR:=Lib.hid hr
   clear hc hr
   obtain⟨x,hx⟩:∃ x,l[k]=x:=⟨_,rfl⟩
   rw[hx]at hcell
   have HX:=Lib.hid hx
   clear hx
   by_cases hbig:x<128
   ·go_wp2_with(first
     | (at_builtin;refine wpList_append_own_at _ rfl _ _ 40 rfl w.heap.size 5 i0 (.int .u8 0) 1 1 Tryz.underlying40 hi hz0 hz1 hz2 rfl (by decide) _ _ _ rfl (hown.alloc _) ⟨wr.heap.size,0,none⟩ 1 1 _ rfl (by rfl) (news_new _ _ _ _ rfl) (by simp[Value.oneCell']) (by unfold maxLen;omega) (by omega) (by simp;omega) ?_;intro v' w2 hown2 hgrow2 _ _)
     | fail)
    go_roundw
    case rel =>
     refine⟨k+1,by omega,by go_num, ?_,(hB.alloc hsz _).grown hgrow2 (by simp;omega) (fun j e=>(hown.lt j e).1)⟩
     rw[bas_yes hkl (by rw[HX.out];exact hbig),HX.out,List.length_append]
     simpa using hown2
    case measure=>simp[intOf];omega
   ·go_wp2
    go_roundw
    case rel=>exact⟨k+1,by omega,by go_num,by rw[bas_no hkl (by rw[HX.out];exact hbig)];exact hown,hB⟩
    case measure=>simp[intOf];omega
  ·obtain rfl:k=n:=by omega
   go_wp2
   go_ret
   refine⟨_,rfl, ?_,hB⟩
   have e:bas l k=Puny.basics l:=by unfold bas;rw[List.take_of_length_le (by rw[HN.out];exact Nat.le_refl _)]
   rw[e]at hown
   exact hown
end Go.Proofs.YtkibdkfdffkkfaaGreatDoor.Pn
namespace Puny
def rdL (s:List UInt8) (h lead part:Nat):List (Nat × Bool) :=
 if _hs:s=[] then [] else
 match hn:num lead 1 s with
 | none=>[(0,false)]
 | some (d,n)=>if d<many*(h+1) then (d,true)::rdL (s.drop n) (h+1) (next d part (h+1)) 2 else [(0,false)]
termination_by s.length
decreasing_by
 have:=num_back lead s 1 d n hn
 rw[List.length_drop]
 omega
theorem rdL_nil(h lead part:Nat):rdL [] h lead part=[]:=by rw[rdL,dif_pos rfl]
theorem rdL_none{s:List UInt8}{h lead part:Nat}(hs:s≠[])(hn:num lead 1 s=none):rdL s h lead part=[(0,false)]:=by
 rw[rdL,dif_neg hs]
 split
 ·rfl
 ·rename_i d n hh;rw[hn]at hh;cases hh
theorem rdL_some{s:List UInt8}{h lead part d n:Nat}(hs:s≠[])(hn:num lead 1 s=some (d,n)) :
  rdL s h lead part=if d<many*(h+1) then (d,true)::rdL (s.drop n) (h+1) (next d part (h+1)) 2 else [(0,false)]:=by
 rw[rdL,dif_neg hs]
 split
 ·rename_i hh;rw[hn]at hh;cases hh
 ·rename_i d' n' hh
  rw[hn]at hh
  injection hh with hh
  injection hh with h1 h2
  subst h1 h2
  rfl
def insL:List Nat->Nat->Nat->List (Nat × Bool)->Option (List Nat × Nat × Nat)
 | out,n,i,[]=>some (out,n,i)
 | out, n, i, (d, ok) :: ds =>
  if ok&&sca (n+(i+d)/(out.length+1)) then
   insL (out.take ((i+d)%(out.length+1))++(n+(i+d)/(out.length+1))::out.drop ((i+d)%(out.length+1))) (n+(i+d)/(out.length+1)) ((i+d)%(out.length+1)+1) ds
  else none
theorem insL_append:∀ (a b:List (Nat × Bool)) (out:List Nat) (n i:Nat),insL out n i (a++b)=(insL out n i a).bind fun r=>insL r.1 r.2.1 r.2.2 b
 | [],b,out,n,i=>rfl
 | (d, ok) :: a, b, out, n, i => by
  rw[List.cons_append,insL,insL]
  split
  ·rw[insL_append]
  ·rfl
theorem insL_none_prefix{a c:List (Nat × Bool)}{out:List Nat}{n i:Nat}(h:insL out n i a=none)(hp:a <+: c):insL out n i c=none:=by
 obtain⟨b,rfl⟩:=hp
 rw[insL_append,h];rfl
theorem insL_true:∀ (ds out:List Nat) (n i:Nat),(insL out n i (ds.map fun d=>(d,true))).map (·.1)=ins out n i ds
 | [],out,n,i=>rfl
 | d :: ds, out, n, i => by
  rw[List.map_cons,insL,ins,Bool.true_and]
  split
  ·exact insL_true ds _ _ _
  ·rfl
theorem rdL_rdD(s:List UInt8)(h lead part:Nat):(∃ ds,rdD s h lead part=some ds/\rdL s h lead part=ds.map fun d=>(d,true))∨(rdD s h lead part=none/\∃ ds:List Nat,rdL s h lead part=(ds.map fun d=>(d,true))++[(0,false)]):=by
 fun_induction rdL s h lead part with
 | case1 h lead part=>exact .inl ⟨[],rdD_nil _ _ _,rfl⟩
 | case2 s h lead part hs hn=>exact .inr ⟨rdD_none hs hn,[],rfl⟩
 | case3 s h lead part hs d n hn hlt ih =>
  rw[rdD_some hs hn,if_pos hlt]
  rcases ih with ⟨ds,h1,h2⟩|⟨h1,ds,h2⟩
  ·exact .inl ⟨d::ds,by rw[h1];rfl,by rw[h2];rfl⟩
  ·exact .inr ⟨by rw[h1];rfl,d::ds,by rw[h2];rfl⟩
 | case4 s h lead part hs d n hn hlt=>exact .inr ⟨by rw[rdD_some hs hn,if_neg hlt],[],rfl⟩
def decD (b:List Nat) (digits:List UInt8):Option (List Nat):=(insL b 128 0 (rdL digits b.length 72 700)).map (·.1)
theorem decD_eq(b:List Nat)(digits:List UInt8):decD b digits=(rdD digits b.length 72 700).bind (ins b 128 0):=by
 unfold decD
 rcases rdL_rdD digits b.length 72 700 with ⟨ds,h1,h2⟩|⟨h1,ds,h2⟩
 ·rw[h1,h2,insL_true];rfl
 ·rw[h1,h2,insL_append]
  cases insL b 128 0 (ds.map fun d=>(d,true)) with
  | none=>rfl
  | some r=>simp[insL]
theorem enc_decD{b r:List Nat}{digits:List UInt8}(hb:∀ x∈b,x<128)(h:decD b digits=some r) :
  basics r=b/\(encD (deltas r) b.length 72 700).map sign=digits/\(∀ x∈r,sca x=true)/\r.length<=b.length+digits.length:=by
 rw[decD_eq]at h
 cases hd:rdD digits b.length 72 700 with
 | none=>rw[hd]at h;cases h
 | some ds =>
  rw[hd]at h
  obtain⟨h1,h2,h3,h4⟩:=deltas_ins hb h
  obtain⟨h5,_⟩:=encD_rdD digits b.length 72 700 ds hd
  refine⟨h2,by rw[h1];exact h5,h3, ?_⟩
  have hle:∀ (ds:List Nat) (h lead part:Nat),ds.length<=(encD ds h lead part).length:=by
   intro ds
   induction ds with
   | nil=>intro h lead part;exact Nat.zero_le _
   | cons d ds ih =>
    intro h lead part
    rw[encD,List.length_append,List.length_cons]
    have h1:=ih (h+1) (next d part (h+1)) 2
    have h2:0<(digs lead 1 d).length:=List.length_pos_iff.2 (digs_ne _ _ _)
    omega
  have:=hle ds b.length 72 700
  rw[<-h5,List.length_map]
  omega
end Puny
namespace Go.Proofs.YtkibdkfdffkkfaaGreatDoor.Pn
open Go.RowKit Go.Shelf Puny
attribute [local go_sem] Oper.semAt_some
def head (l:List Nat):List Nat:=Puny.basics l++(if Puny.basics l=[] then [] else [45])
def txt (l pre:List Nat):List Nat:=head l++(encD pre (Puny.basics l).length 72 700).map fun d=>(sign d).toNat
theorem txt_nil(l:List Nat):txt l []=head l:=by simp[txt,encD]
theorem txt_snoc(l pre:List Nat)(d:Nat):txt l (pre++[d])=txt l pre++(digs (bias pre (Puny.basics l).length 72 700).1 1 d).map fun d=>(sign d).toNat:=by
 unfold txt;rw[encD_snoc,List.map_append,List.append_assoc]
theorem cb_sgn(L:List Nat):cl .u8 (L.map sgn)=cb (L.map fun d=>(sign d).toNat):=by simp[cl,cb,sgn]
def encT (l:List Nat):List UInt8:=(Puny.basics l).map UInt8.ofNat++(if Puny.basics l=[] then [] else [45])++(encD (deltas l) (Puny.basics l).length 72 700).map sign
def EncI (l:List Nat) (w:World) (n1 B4 B5 B6 H:Nat) (pre:List Nat) (W:World):Prop :=
 ∃ v, W.heap[B4]? = some (.cells #[v] 40 (0, 0)) ∧ W.heap[B5]? = some (.cells #[.int .i64 (((Puny.basics l).length + pre.length : Nat) : Int)] 2 (0, 0)) ∧
  W.heap[B6]? = some (.cells #[.int .i64 ((bias pre (Puny.basics l).length 72 700).1:Int),.int .i64 ((bias pre (Puny.basics l).length 72 700).2:Int)] 353 (0,0)) /\
  W.ownsRow w.heap.size 5 1 v (txt l pre).length (cb (txt l pre))/\(∀ j,v.ownBlock=some j->(j<n1/\j≠B4/\j≠B5/\j≠B6)∨H<=j)/\Below w.heap.size w W /\
  (txt l pre).length<=(head l).length+11*pre.length/\(bias pre (Puny.basics l).length 72 700).1<=7000000000/\0<(bias pre (Puny.basics l).length 72 700).2
def Encoded (l:List Nat) (w:World) (e:Ending) (w':World):Prop :=
 ∃ s:ByteArray,e = .returned (.tuple #[.string s,.int .i64 0])/\s.data.toList=encT l/\Below w.heap.size w w'
theorem all_isSca{l:List Nat}(h:∀ x∈l,sca x=true):(l.map fun n:Nat=>(n:Int)).all isSca=true:=by
 rw[List.all_map,List.all_eq_true]
 intro x hx
 have:=h x hx
 simp[sca]at this
 simp[isSca];omega
theorem firstBias_agg(w:World):Calls Tryz.prog 314 #[] w fun e w'=>e = .returned (.agg #[.int .i64 72,.int .i64 700])/\Below w.heap.size w w':=firstBias_any w
theorem far_store{w2 w3:World}{B B4:Nat}{v:Value}{o:Obj}(h:w2.heap[B]? = some o)(hne:B≠B4)(hB3:Below (w2.setCell ⟨B4,0,none⟩ v).heap.size (w2.setCell ⟨B4,0,none⟩ v) w3):w3.heap[B]? = some o:=by
 have hlt:=(Array.getElem?_eq_some_iff.1 h).1
 have hg:=grownBy_setCell' w2 B4 v
 exact (hB3.block B (Nat.lt_of_lt_of_le hlt hg.size)).trans ((hg.block B hlt (fun e=>hne (by cases e;rfl))).trans h)
theorem at_store{w2 w3:World}{B4:Nat}{v u:Value}{t:TypeId}(h:w2.heap[B4]? = some (.cells #[u] t (0,0)))(hB3:Below (w2.setCell ⟨B4,0,none⟩ v).heap.size (w2.setCell ⟨B4,0,none⟩ v) w3):w3.heap[B4]? = some (.cells #[v] t (0,0)):=by
 have hlt:=(Array.getElem?_eq_some_iff.1 h).1
 have hg:=grownBy_setCell' w2 B4 v
 refine (hB3.block B4 (Nat.lt_of_lt_of_le hlt hg.size)).trans ?_
 simp[World.setCell,Array.getElem?_modify,h]
theorem alloc2_0(w:World)(a b:Obj):((w.alloc a).alloc b).heap[w.heap.size]? = some a:=(Below.heap_alloc _ _ _ (by simp)).trans (World.alloc_heap_new w _)
theorem alloc2_1(w:World)(a b:Obj):((w.alloc a).alloc b).heap[w.heap.size+1]? = some b:=by have:=World.alloc_heap_new (w.alloc a) b;rwa [World.size_alloc]at this
theorem alloc3_2(w:World)(a b c:Obj):(((w.alloc a).alloc b).alloc c).heap[w.heap.size+1+1]? = some c:=by have:=World.alloc_heap_new ((w.alloc a).alloc b) c;rwa [World.size_alloc,World.size_alloc]at this
theorem own_ne{w:World}{base:Nat}{e:TypeId}{size n:Nat}{v:Value}{xs:List Value}(h:w.ownsRow base e size v n xs){B:Nat}{cs:Array Value}{t:TypeId}{fr:Nat × Nat}(hb:w.heap[B]? = some (.cells cs t fr))(hne:t≠e):∀ j,v.ownBlock=some j->j≠B:=by
 intro j hj
 rcases h.2 with ⟨hv,_⟩|⟨g,cap,cur,hv,_,hg,_⟩
 ·rw[hv]at hj;cases hj
 ·rw[hv]at hj
  cases hj
  rintro rfl
  rw[hb]at hg
  injection hg with hg
  injection hg with _ h2 _
  exact hne h2
theorem head_len(l:List Nat):(head l).length<=l.length+1:=by
 unfold head
 have:(Puny.basics l).length<=l.length:=List.length_filter_le _ _
 rw[List.length_append]
 split<;>simp<;>omega
theorem enc_start{l:List Nat}{w W:World}{B4 B5 B6:Nat}{v:Value}(h4:W.heap[B4]? = some (.cells #[v] 40 (0,0)))(h5:W.heap[B5]? = some (.cells #[.int .i64 ((Puny.basics l).length:Int)] 2 (0,0)))
  (h6:W.heap[B6]? = some (.cells #[.int .i64 72,.int .i64 700] 353 (0,0))) (hown:W.ownsRow w.heap.size 5 1 v (txt l []).length (cb (txt l []))) (hlt:∀ j,v.ownBlock=some j->j<B6) (hne4:∀ j,v.ownBlock=some j->j≠B4) (hne5:∀ j,v.ownBlock=some j->j≠B5)
  (hB:Below w.heap.size w W):∀ H,EncI l w (B6+1) B4 B5 B6 H [] W:=fun H =>
 ⟨v,h4,by simpa using h5,by simpa[bias] using h6,hown,fun j hj => .inl ⟨by have:=hlt j hj;omega,hne4 j hj,hne5 j hj,by have:=hlt j hj;omega⟩,hB,by rw[txt_nil];simp,by simp[bias],by simp[bias]⟩
theorem encI_ab{l:List Nat}{w:World}{n1 B4 B5 B6 H:Nat}(h4:B4<n1)(h5:B5<n1)(h6:B6<n1)(hw:w.heap.size<=n1):AbAll n1 H (fun pre W=>EncI l w n1 B4 B5 B6 H pre W):=by
 rintro pre W W' row ⟨v,b4,b5,b6,hown,hob,hB,hl,hlead,hpart⟩ hg hr
 have far:∀ j,j<W.heap.size->(j<n1∨H<=j)->W'.heap[j]? = W.heap[j]?:=fun j hj hj2=>hg.block j hj (fun e=>by have:=hr j e.symm;omega)
 refine⟨v,(far B4 (Array.getElem?_eq_some_iff.1 b4).1 (.inl h4)).trans b4,(far B5 (Array.getElem?_eq_some_iff.1 b5).1 (.inl h5)).trans b5,(far B6 (Array.getElem?_eq_some_iff.1 b6).1 (.inl h6)).trans b6,
  own_of_heap hown (fun j hj=>far j (hown.lt j hj).2 (by have:=hob j hj;omega)),hob,hB.grown hg hB.size (fun j e=>by have:=hr j e;omega),hl,hlead,hpart⟩
theorem alloc3_0(w:World)(a b c:Obj):(((w.alloc a).alloc b).alloc c).heap[w.heap.size]? = some a :=
 (Below.heap_alloc _ _ _ (by simp;omega)).trans ((Below.heap_alloc _ _ _ (by simp)).trans (World.alloc_heap_new w _))
theorem alloc3_1(w:World)(a b c:Obj):(((w.alloc a).alloc b).alloc c).heap[w.heap.size+1]? = some b :=
 (Below.heap_alloc _ _ _ (by simp)).trans (by have:=World.alloc_heap_new (w.alloc a) b;rwa [World.size_alloc]at this)
theorem box_cell{w:World}{B:Nat}{a:Value}{t:TypeId}(h:w.heap[B]? = some (.cells #[a] t (0,0))):w.cell? ⟨B,0,none⟩=some a/\w.frozen? ⟨B,0,none⟩=false:=by
 simp[World.cell?,World.frozen?,h]
theorem heap_set_ne{W:World}{B B' o:Nat}{v:Value}(h:B≠B'):(W.setCell ⟨B',o,none⟩ v).heap[B]? = W.heap[B]?:=by
 simp[World.setCell,Array.getElem?_modify]
 intro e;exact absurd e.symm h
theorem cell_set_ne{W:World}{B B' o o':Nat}{v:Value}(h:B≠B'):(W.setCell ⟨B',o',none⟩ v).cell? ⟨B,o,none⟩=W.cell? ⟨B,o,none⟩:=World.cell?_of_block (a:=⟨B,o,none⟩) (heap_set_ne h)
theorem frozen_set_ne{W:World}{B B' o o':Nat}{v:Value}(h:B≠B'):(W.setCell ⟨B',o',none⟩ v).frozen? ⟨B,o,none⟩=W.frozen? ⟨B,o,none⟩:=by
 simp only[World.frozen?,heap_set_ne h]
theorem heap_set1{W:World}{B:Nat}{u v:Value}{t:TypeId}(h:W.heap[B]? = some (.cells #[u] t (0,0))):(W.setCell ⟨B,0,none⟩ v).heap[B]? = some (.cells #[v] t (0,0)):=by
 simp[World.setCell,Array.getElem?_modify,h]
theorem heap_set20{W:World}{B:Nat}{a b v:Value}{t:TypeId}(h:W.heap[B]? = some (.cells #[a,b] t (0,0))):(W.setCell ⟨B,0,none⟩ v).heap[B]? = some (.cells #[v,b] t (0,0)):=by
 simp[World.setCell,Array.getElem?_modify,h]
theorem heap_set21{W:World}{B:Nat}{a b v:Value}{t:TypeId}(h:W.heap[B]? = some (.cells #[a,b] t (0,0))):(W.setCell ⟨B,1,none⟩ v).heap[B]? = some (.cells #[a,v] t (0,0)):=by
 simp[World.setCell,Array.getElem?_modify,h]
theorem own_slice{w:World}{base:Nat}{e:TypeId}{size n:Nat}{v:Value}{xs:List Value}(h:w.ownsRow base e size v n xs):∃ A c,v = .slice A n c:=by
 rcases h.2 with ⟨hv,h0⟩|⟨g,c,cur,hv,_⟩
 ·exact⟨none,0,by rw[hv,h0]⟩
 ·exact⟨_,_,hv⟩
theorem strOf_txt(L:List Nat):(strOfNums (L.map fun n:Nat=>(n:Int))).data.toList=L.map UInt8.ofNat:=by
 rw[strOfNums_data,List.map_map]
 refine List.map_congr_left fun x _ => ?_
 simp
theorem conv_own{w:World}{base:Nat}{v:Value}{n:Nat}{L:List Nat}(h:w.ownsRow base 5 1 v n (cb L)) :
  (convert 40 9 v).run Tryz.prog w = .ok (.string (strOfNums (L.map fun n:Nat=>(n:Int)))) w:=by
 obtain⟨A,c,rfl⟩:=own_slice h
 have hn:n=L.length:=by have:=h.1;simpa using this.symm
 subst hn
 have hr:=Row.of_own h
 cases L with
 | nil =>
  cases A with
  | none=>exact run_convert_bytes_nil w 40 5 Tryz.underlying40 Tryz.underlying5 0 c 9 Tryz.underlying9
  | some a =>
   rw[run_convert_bytes_string w 40 9 5 _ _ c Tryz.underlying40 Tryz.underlying5 Tryz.underlying9]
   exact run_bytesToString w a 0 c [] (by simp[loadCells,loadCellsFrom])
 | cons x t =>
  obtain⟨b,o,rfl,_,hc⟩:=hr.at_ (by simp)
  refine run_convert_bytes_arg w 40 5 Tryz.underlying40 Tryz.underlying5 b o _ c ((x::t).map fun n:Nat=>(n:Int)) (by simp) (fun i hi => ?_) 9 Tryz.underlying9
  rw[hc i (by simpa using hi)]
  generalize x::t=L at hi ⊢
  have hiL:i<L.length:=by simpa using hi
  have e1:(cb L)[i]? = some (.int .u8 (L[i]:Int)):=by simp[hiL]
  have e2:(L.map fun n:Nat=>(n:Int)).getD i 0=(L[i]:Int):=by simp[List.getD,hiL]
  rw[e1,e2]
theorem txt_enc(l:List Nat):(txt l (deltas l)).map UInt8.ofNat=encT l:=by
 unfold txt head encT
 rw[List.map_append,List.map_append,List.map_map]
 congr 1
 ·congr 1
  split<;>rfl
 ·refine List.map_congr_left fun x _ => ?_
  simp
theorem enc_round{l pre:List Nat}{w X X2:World}{n1 B4 B5 B6 D H x:Nat}{v v2:Value}{lead part k:Nat}(h4:B4<n1)(h5:B5<n1)(h6:B6<n1)(g4:w.heap.size<=B4)(g5:w.heap.size<=B5)(g6:w.heap.size<=B6)(d45:B5≠B4)(d46:B6≠B4)(d56:B6≠B5)
  (hn1:n1<=D) (hD:D+2<=H) (hHX:H<=X.heap.size) (hl:bias pre (Puny.basics l).length 72 700=(lead,part)) (hk:(Puny.basics l).length+pre.length=k)
  (b4:X.heap[B4]? = some (.cells #[v] 40 (0,0))) (b5:X.heap[B5]? = some (.cells #[.int .i64 (k:Int)] 2 (0,0))) (b6:X.heap[B6]? = some (.cells #[.int .i64 (lead:Int),.int .i64 (part:Int)] 353 (0,0)))
  (hown:X.ownsRow w.heap.size 5 1 v (txt l pre).length (cb (txt l pre))) (hob:∀ j,v.ownBlock=some j->(j<n1/\j≠B4/\j≠B5/\j≠B6)∨H<=j) (hB:Below w.heap.size w X) (hlen:(txt l pre).length<=(head l).length+11*pre.length)
  (hx:x<=3000000000) (hown2:X2.ownsRow w.heap.size 5 1 v2 ((txt l pre).length+((digs lead 1 x).map sgn).length) (cb (txt l pre)++cl .u8 ((digs lead 1 x).map sgn))) (hgr:Grew X v X2 v2) :
  SameBooks D X ((((X2.setCell ⟨B4,0,none⟩ v2).setCell ⟨B5,0,none⟩ (.int .i64 ((k:Int)+1))).setCell ⟨B6,0,none⟩ (.int .i64 (next x part (k+1):Nat))).setCell ⟨B6,1,none⟩ (.int .i64 2)) /\
  Kept w.heap.size n1 D H X ((((X2.setCell ⟨B4,0,none⟩ v2).setCell ⟨B5,0,none⟩ (.int .i64 ((k:Int)+1))).setCell ⟨B6,0,none⟩ (.int .i64 (next x part (k+1):Nat))).setCell ⟨B6,1,none⟩ (.int .i64 2)) /\
  EncI l w n1 B4 B5 B6 H (pre++[x]) ((((X2.setCell ⟨B4,0,none⟩ v2).setCell ⟨B5,0,none⟩ (.int .i64 ((k:Int)+1))).setCell ⟨B6,0,none⟩ (.int .i64 (next x part (k+1):Nat))).setCell ⟨B6,1,none⟩ (.int .i64 2)):=by
 have far:∀ {j:Nat},j<X.heap.size->v.ownBlock≠some j->X2.heap[j]? = X.heap[j]?:=fun hj hn=>hgr.1.block _ hj (fun e=>hn e.symm)
 have n4:=own_ne hown b4 (by decide)
 have n5:=own_ne hown b5 (by decide)
 have n6:=own_ne hown b6 (by decide)
 have b42:=(far (Array.getElem?_eq_some_iff.1 b4).1 (fun e=>n4 _ e rfl)).trans b4
 have b52:=(far (Array.getElem?_eq_some_iff.1 b5).1 (fun e=>n5 _ e rfl)).trans b5
 have b62:=(far (Array.getElem?_eq_some_iff.1 b6).1 (fun e=>n6 _ e rfl)).trans b6
 have free:Free (fun j=>v.ownBlock=some j∨j=B4∨j=B5∨j=B6) X ((((X2.setCell ⟨B4,0,none⟩ v2).setCell ⟨B5,0,none⟩ (.int .i64 ((k:Int)+1))).setCell ⟨B6,0,none⟩ (.int .i64 (next x part (k+1):Nat))).setCell ⟨B6,1,none⟩ (.int .i64 2)):=by
  have f1:Free (fun j=>v.ownBlock=some j∨j=B4∨j=B5∨j=B6) X X2:=(Free.refl _ X).trans (Free.of_grown hgr.1) (fun j _ e => .inl e)
  exact ((((f1.trans (Free.store _ _ _) (fun j _ e => .inr (.inl e))).trans (Free.store _ _ _) (fun j _ e => .inr (.inr (.inl e)))).trans (Free.store _ _ _) (fun j _ e => .inr (.inr (.inr e)))).trans (Free.store1 _ _ _) (fun j _ e => .inr (.inr (.inr e))))
 have m4:=own_ne hown2 b42 (by decide)
 have m5:=own_ne hown2 b52 (by decide)
 have m6:=own_ne hown2 b62 (by decide)
 generalize hX':((((X2.setCell ⟨B4,0,none⟩ v2).setCell ⟨B5,0,none⟩ (.int .i64 ((k:Int)+1))).setCell ⟨B6,0,none⟩ (.int .i64 (next x part (k+1):Nat))).setCell ⟨B6,1,none⟩ (.int .i64 2))=X' at free ⊢
 have notS:∀ j,n1<=j->j<H->¬ (v.ownBlock=some j∨j=B4∨j=B5∨j=B6):=fun j hj hj2 h=>by
  rcases h with h|h|h|h
  ·have:=hob j h;omega
  ·omega
  ·omega
  ·omega
 have notL:∀ j,j<w.heap.size->¬ (v.ownBlock=some j∨j=B4∨j=B5∨j=B6):=fun j hj h=>by
  rcases h with h|h|h|h
  ·have:=(hown.lt j h).1;omega
  ·omega
  ·omega
  ·omega
 refine⟨⟨free.2.2.2.2 D (by omega) (notS D hn1 (by omega)),free.2.2.2.2 (D+1) (by omega) (notS (D+1) (by omega) (by omega))⟩,⟨free.2.2.2.1,fun j hj => ?_⟩,v2, ?_, ?_, ?_, ?_, ?_, ?_, ?_, ?_, ?_⟩
 ·rcases hj with hj|⟨hj1,hj2,_,_⟩
  ·exact free.2.2.2.2 j (by have:=hB.size;omega) (notL j hj)
  ·exact free.2.2.2.2 j (by omega) (notS j hj1 hj2)
 ·rw[<-hX',heap_set_ne (Ne.symm d46),heap_set_ne (Ne.symm d46),heap_set_ne (Ne.symm d45)];exact heap_set1 b42
 ·rw[<-hX',heap_set_ne (Ne.symm d56),heap_set_ne (Ne.symm d56),List.length_append,List.length_singleton,show (Puny.basics l).length+(pre.length+1)=k+1 by omega]
  have:=heap_set1 (v:=.int .i64 ((k:Int)+1)) ((heap_set_ne (W:=X2) (o:=0) (v:=v2) d45).trans b52)
  rw[this];simp
 ·rw[<-hX',bias_snoc,hl,hk]
  have h1:=(heap_set_ne (W:=(X2.setCell ⟨B4,0,none⟩ v2)) (o:=0) (v:=.int .i64 ((k:Int)+1)) d56).trans ((heap_set_ne (W:=X2) (o:=0) (v:=v2) d46).trans b62)
  rw[heap_set21 (heap_set20 h1)]
  rfl
 ·rw[txt_snoc,hl]
  have h2:X'.ownsRow w.heap.size 5 1 v2 ((txt l pre).length+((digs lead 1 x).map sgn).length) (cb (txt l pre)++cl .u8 ((digs lead 1 x).map sgn)):=own_of_heap hown2 (fun j hj=>by
   rw[<-hX',heap_set_ne (m6 j hj),heap_set_ne (m6 j hj),heap_set_ne (m5 j hj),heap_set_ne (m4 j hj)])
  rw[cb_sgn,<-List.map_append]at h2
  simpa using h2
 ·intro j hj
  rcases hgr.2 with e|⟨i,e,hi⟩
  ·rw[e]at hj;exact hob j hj
  ·rw[e]at hj;injection hj with hj;subst hj;exact .inr (by omega)
 ·exact hB.trans (free.below hB.size notL)
 ·have:=digs_len10 lead 1 x hx
  rw[txt_snoc,hl]
  simp only[List.length_append,List.length_map,List.length_singleton]
  omega
 ·rw[bias_snoc]
  have:=next_le x (bias pre (Puny.basics l).length 72 700).2 ((Puny.basics l).length+pre.length+1)
  show next _ _ _<=_
  omega
 ·rw[bias_snoc];show 0<2;omega
theorem Encode_in(N:Nat)(hS:SortOk N)(hN:N<=100000)(n:Nat)(hn:3<=n)(l:List Nat)(A:Option Addr)(len cap:Nat)(w:World)(hlen:l.length=len)(ho:(oth l len).length<=N)(hm:len<=2000)(hsc:∀ x∈l,sca x=true)(hr:Row w w.heap.size A (cn l)) :
  CallsIn Fence.wide n Tryz.prog 278 #[.slice A len cap] w (Encoded l w):=by
 have h1:1<=n:=by omega
 obtain⟨i0,hi,hz0,hz1,hz2⟩:=info_parts info_u8
 have hall:=allScalars_any (l.map fun n:Nat=>(n:Int)) A len cap w (by simpa using hlen) (by omega) (by rw[show cl .i32 (l.map fun n:Nat=>(n:Int))=cn l by simp[cl,cn]];exact hr) (fun x hx=>by
  obtain⟨y,hy,rfl⟩:=List.mem_map.1 hx
  have:=hsc y hy
  simp[sca]at this;omega)
 rw[all_isSca hsc]at hall
 have hbas:=basics_any l A len cap w hlen (by omega) hr
 have HALL:=Lib.hid hall
 have HBAS:=Lib.hid hbas
 have HLEN:=Lib.hid hlen
 have HSC:=Lib.hid hsc
 have HR:=Lib.hid hr
 have HS:=Lib.hid hS
 clear hall hbas hlen hsc hr hS
 refine callsIn_of_wp_marks Tryz.func278 rfl trivial ?_ rfl
 simp only[Tryz.ntmps278,List.size_toArray,List.length_cons,List.length_nil,Nat.reduceAdd,Nat.reduceSub,Array.replicate_succ,Array.replicate_zero,List.push_toArray,List.append_toArray,List.nil_append,List.cons_append]
 gi_wp2_with fail
 refine⟨trivial,(callsIn_wide.2 HALL.out).mono ?_⟩
 rintro e w' ⟨rfl,rfl⟩
 gi_wp2_with fail
 refine⟨trivial,(callsIn_wide.2 HBAS.out).mono ?_⟩
 rintro e w1 ⟨v,rfl,hown,hB⟩
 obtain⟨g,mc,rfl⟩:∃ g mc,v = .slice g (Puny.basics l).length mc:=by
  rcases hown.2 with ⟨hv,h0⟩|⟨g,c,cur,hv,_⟩
  ·exact⟨none,0,by rw[hv,h0]⟩
  ·exact⟨_,_,hv⟩
 have hbl:(Puny.basics l).length<=len:=by rw[<-HLEN.out];exact List.length_filter_le _ _
 have hsz:=hB.size
 have hl4:w1.heap.size<w1.heap.size+1:=by omega
 by_cases hb0:(Puny.basics l).length=0
 ·have HB0:=Lib.hid hb0
  have hbd:decide ((0:Int)<((Puny.basics l).length:Int))=false:=decide_eq_false (by omega)
  have hbe:decide (0<(Puny.basics l).length)=false:=decide_eq_false (by omega)
  clear hb0
  gi_wp2_with (first
   | (refine⟨trivial, ?_⟩;gi_at_call 314;refine (callsIn_wide.2 (firstBias_agg _)).mono ?_;rintro e w3 ⟨rfl,hB3⟩;have hb43:=(hB3.block w1.heap.size (by simp;omega)).trans (alloc2_0 w1 _ _);have hb53:=(hB3.block (w1.heap.size+1) (by simp)).trans (alloc2_1 w1 _ _);obtain⟨c53,_⟩:=box_cell hb53;have hl53:=(Array.getElem?_eq_some_iff.1 hb53).1)
   | (refine⟨trivial, ?_⟩;gi_at_call 315;refine (deltas_any _ _ _ _ _ _).mono ?_;rintro e w' ⟨rfl,rfl⟩)
   | fail)
  have hl43:w1.heap.size<w3.heap.size:=by omega
  have hbn:Puny.basics l=[]:=List.eq_nil_of_length_eq_zero HB0.out
  have hBa:Below w1.heap.size w1 ((w1.alloc (.cells #[.slice g (Puny.basics l).length mc] 40)).alloc (.cells #[.int .i64 ((Puny.basics l).length:Int)] 2)):=((Below.refl _ w1).alloc (Nat.le_refl _) _).alloc (by simp) _
  have hBw3:Below w.heap.size w w3:=(hB.trans (hBa.mono hsz)).trans (hB3.mono (by simp;omega))
  have hown3:w3.ownsRow w.heap.size 5 1 (.slice g (Puny.basics l).length mc) (txt l []).length (cb (txt l [])):=by
   have h2:w3.ownsRow w.heap.size 5 1 (.slice g (Puny.basics l).length mc) (Puny.basics l).length (cb (Puny.basics l)):=own_below (own_below hown hBa) hB3
   rw[txt_nil];simpa[head,hbn] using h2
  obtain⟨W,hW⟩:∃ W,((w3.alloc (.cells #[.int .i64 72,.int .i64 700] 353)).alloc (.cells #[.slice A len cap] 22)).alloc (.cells #[.int .i64 ((Puny.basics l).length:Int)] 2)=W:=⟨_,rfl⟩
  have hWs:W.heap.size=w3.heap.size+3:=by rw[<-hW];simp
  have hBW:Below w3.heap.size w3 W:=by rw[<-hW];exact (((Below.refl _ w3).alloc (Nat.le_refl _) _).alloc (by simp) _).alloc (by simp;omega) _
  have hb6:W.heap[w3.heap.size]? = some (.cells #[.int .i64 72,.int .i64 700] 353 (0,0)):=by rw[<-hW];exact alloc3_0 _ _ _ _
  have hbl:W.heap[w3.heap.size+1]? = some (.cells #[.slice A len cap] 22 (0,0)):=by rw[<-hW];exact alloc3_1 _ _ _ _
  have hbh:W.heap[w3.heap.size+1+1]? = some (.cells #[.int .i64 ((Puny.basics l).length:Int)] 2 (0,0)):=by rw[<-hW];exact alloc3_2 _ _ _ _
  have hst:=enc_start (B4:=w1.heap.size) (B5:=w1.heap.size+1) (hBW.block _ hl43 |>.trans hb43) (hBW.block _ hl53 |>.trans hb53) hb6 (own_of_heap hown3 (fun j hj=>hBW.block j (hown3.lt j hj).2)) (fun j hj=>(hown3.lt j hj).2) (fun j hj=>own_ne hown3 hb43 (by decide) j hj) (fun j hj=>own_ne hown3 hb53 (by decide) j hj) (hBw3.trans (hBW.mono (by have:=hBw3.size;omega)))
  have hrW:Row W w.heap.size A (cn l):=(HR.out.below hBw3).below (hBW.mono (by have:=hBw3.size;omega))
  have hwW:w.heap.size<=w3.heap.size:=hBw3.size
  have HST:=Lib.hid hst
  have HRW:=Lib.hid hrW
  have HBL:=Lib.hid hbl
  have HBH:=Lib.hid hbh
  have HBW3:=Lib.hid hBw3
  generalize hgW:((w3.alloc (.cells #[.int .i64 72,.int .i64 700] 353)).alloc (.cells #[.slice A len cap] 22)).alloc (.cells #[.int .i64 ((Puny.basics l).length:Int)] 2)=W' at hW ⊢
  subst hW
  clear hgW hst hrW hbl hbh hb6 hBw3 hown3
  refine wpIn_iter (F:=Fence.wide) rfl h1 (gf:=359) (lb:=#[.pointer (some ⟨w3.heap.size+1,0,none⟩),.pointer (some ⟨w3.heap.size+1+1,0,none⟩)]) rfl trivial (enters_of Tryz.func359 (by kernel_rfl) rfl)
   (encs:=encs) (G:=fun _ d=>d<=3000000000) (S:=fun xs=>xs=deltas l) (Sp:=fun _=>True) (N:=len) (n0:=w.heap.size) (n1:=w3.heap.size+1) (by omega) (by omega) (fun _=>rfl)
   (fun W0 hB0 hs0=>deltas1_in N HS.out hN (n-1) (by omega) w.heap.size (w3.heap.size+1) W'.heap.size (w3.heap.size+1) A len cap l HLEN.out ho hm (fun x hx=>by have:=HSC.out x hx;simp[sca]at this;omega) (by omega) (Nat.le_refl _) (by omega) W0 hs0
    (HRW.out.below (hB0.mono (by omega))) ((hB0.block _ (by omega)).trans HBL.out) ((hB0.block _ (by omega)).trans HBH.out))
   (fun H pre X=>EncI l w (w3.heap.size+1) w1.heap.size (w1.heap.size+1) w3.heap.size H pre X) (fun _ _=>False)
   (fun H=>encI_ab (by omega) (by omega) (by omega) (by omega)) (fun _ _ _ _ h _ _=>h.elim) (fun H hH=>HST.out H)
   (fun x a' => ∃ u0 u1 u2 u3 u8 u9 u10 u11 u12 u13 u14 u15 u16 u17 u18 u19 u20 u21 u22 u23 u24 u25 u26 u27 u28 u29 u30 u31 u32 u33 u34 u35 u36 u37 u38:Value,a' = { tmps:=#[u0,u1,u2,u3,.pointer (some ⟨w1.heap.size,0,none⟩),.pointer (some ⟨w1.heap.size+1,0,none⟩),.pointer (some ⟨w3.heap.size,0,none⟩),.int .i64 (x:Int),u8,u9,u10,u11,u12,u13,u14,u15,u16,u17,u18,u19,u20,u21,u22,u23,u24,u25,u26,u27,u28,u29,u30,u31,u32,u33,u34,u35,u36,u37,u38],defers:=[] })
   ?assign0 ?body0 ?done0 ?stop0
  case assign0 =>
   intro lp x X K hK
   simp only[encs]
   gi_wp2
   all_goals exact hK _ ⟨_,_,_,_,_,_,_,_,_,_,_,_,_,_,_,_,_,_,_,_,_,_,_,_,_,_,_,_,_,_,_,_,_,_,_,rfl⟩
  case body0 =>
   rintro H lp pre x a' X hH hHX hI ⟨u0,u1,u2,u3,u8,u9,u10,u11,u12,u13,u14,u15,u16,u17,u18,u19,u20,u21,u22,u23,u24,u25,u26,u27,u28,u29,u30,u31,u32,u33,u34,u35,u36,u37,u38,rfl⟩ hlen hgood
   obtain⟨v,b4,b5,b6,hownX,hobX,hBX,hlX,hleadX,hpartX⟩:=hI
   have hn11:1<=n-1-1:=by omega
   have hhl:(head l).length<=2001:=by have:=head_len l;rw[HLEN.out]at this;omega
   obtain⟨lead,part,hlp⟩:∃ lead part,bias pre (Puny.basics l).length 72 700=(lead,part):=⟨_,_,rfl⟩
   rw[hlp]at b6 hleadX hpartX
   obtain⟨k,hk⟩:∃ k,(Puny.basics l).length+pre.length=k:=⟨_,rfl⟩
   rw[hk]at b5
   dsimp only at b6 hleadX hpartX
   have hadd:=addDigits_any w.heap.size v _ _ x lead part X hownX (by omega) hBX.size (by omega) (by omega)
   have e4:w1.heap.size<X.heap.size:=(Array.getElem?_eq_some_iff.1 b4).1
   have e6:w3.heap.size<X.heap.size:=(Array.getElem?_eq_some_iff.1 b6).1
   have n4:=own_ne hownX b4 (by decide)
   have n5:=own_ne hownX b5 (by decide)
   have n6:=own_ne hownX b6 (by decide)
   have hround:=fun (X2:World) (v2:Value) h1 h2=>enc_round (X2:=X2) (v2:=v2) (n1:=w3.heap.size+1) (B4:=w1.heap.size) (B5:=w1.heap.size+1) (B6:=w3.heap.size) (D:=W'.heap.size) (H:=H) (by omega) (by omega) (by omega) (by omega) (by omega) (by omega) (by omega) (by omega) (by omega) (by omega) hH hHX hlp hk b4 b5 b6 hownX hobX hBX hlX hgood h1 h2
   obtain⟨c4,f4⟩:=box_cell b4
   obtain⟨c60,c61,f60,f61⟩:=blk2 b6
   have ek:((k+1:Nat):Int)=(k:Int)+1:=by omega
   have hfol:=fun (u:World) a1 a2 a3 a4=>follow_any w3.heap.size x part (k+1) (lead:Int) u (by omega) hpartX (by omega) (by omega) a1 a2 a3 a4
   simp only[ek]at hfol
   have hkk:k<=4000:=by omega
   have HADD:=Lib.hid hadd
   have HROUND:=Lib.hid hround
   have HFOL:=Lib.hid hfol
   have HB5:=Lib.hid b5
   have HB6:=Lib.hid b6
   have HB4:=Lib.hid b4
   have HN4:=Lib.hid n4
   have HN5:=Lib.hid n5
   have HN6:=Lib.hid n6
   have q1:w3.heap.size≠w1.heap.size:=by omega
   have q2:w3.heap.size≠w1.heap.size+1:=by omega
   clear hadd hround hfol hobX hlX ek hlp hk b4 b5 b6 hownX n4 n5 n6 hBX
   gi_wp2_with (first
    | (refine⟨trivial, ?_⟩;gi_at_call 316;refine (CallsIn.inRound lp (callsIn_wide.2 HADD.out)).mono ?_;rintro e X2 ⟨v2,rfl,hown2,hgr2⟩;have HR2:=Lib.hid (HROUND.out X2 _ hown2 hgr2);have b42:=(hgr2.1.block _ e4 (fun e=>HN4.out _ e.symm rfl)).trans HB4.out;have b52:=(hgr2.1.block _ (Array.getElem?_eq_some_iff.1 HB5.out).1 (fun e=>HN5.out _ e.symm rfl)).trans HB5.out;have b62:=(hgr2.1.block _ e6 (fun e=>HN6.out _ e.symm rfl)).trans HB6.out;obtain⟨A2,m2,rfl⟩:=own_slice hown2;obtain⟨c42,f42⟩:=box_cell b42;obtain⟨c52,f52⟩:=box_cell b52;obtain⟨c620,c621,f620,f621⟩:=blk2 b62;clear hown2 hgr2 b42 b52 b62 c4 f4 c60 c61 f60 f61)
    | (refine⟨trivial, ?_⟩;gi_at_call 317;refine (CallsIn.inRound lp (callsIn_wide.2 (HFOL.out _ (by rw[cell_set_ne q2,cell_set_ne q1];exact c620) (by rw[cell_set_ne q2,cell_set_ne q1];exact c621) (by rw[frozen_set_ne q2,frozen_set_ne q1];exact f620) (by rw[frozen_set_ne q2,frozen_set_ne q1];exact f621)))).mono ?_;rintro e X3 ⟨rfl,rfl⟩)
    | fail)
   have h9:=HR2.out
   simp only[List.length_map]at h9
   exact h9
  case done0 =>
   rintro H xs X hH rfl ⟨v,b4,b5,b6,hownX,hobX,hBX,hlX,hleadX,hpartX⟩ hD
   have hconv:=conv_own hownX
   obtain⟨c4,f4⟩:=box_cell b4
   obtain⟨A2,m2,rfl⟩:=own_slice hownX
   have HENC:=Lib.hid (txt_enc l)
   clear b5 b6 hownX hobX hlX hleadX hpartX
   gi_wp2
   refine⟨by simp,.inl ⟨_,_,rfl,run_takeDeferred hD, ?_⟩⟩
   refine⟨_,results_tmp2 rfl _ _ _,_,rfl,(strOf_txt _).trans HENC.out, ?_⟩
   exact hBX.trans (belowK_b (w:=w) (Nat.le_refl _) X _ _ _ (by omega) hD rfl rfl)
  case stop0 =>
   rintro pre X _ h _
   exact h.elim
 ·have hb1:0<(Puny.basics l).length:=by omega
  have hnw:=news_new ((w1.alloc (.cells #[.slice g (Puny.basics l).length mc] 40)).alloc (.cells #[.int .i64 ((Puny.basics l).length:Int)] 2)) #[.int .u8 45] 5 [.int .u8 45] rfl
  rw[show ((w1.alloc (.cells #[.slice g (Puny.basics l).length mc] 40)).alloc (.cells #[.int .i64 ((Puny.basics l).length:Int)] 2)).heap.size=w1.heap.size+1+1 by simp]at hnw
  have hne4:some w1.heap.size≠(Value.slice g (Puny.basics l).length mc).ownBlock:=fun e=>by have:=(hown.lt _ e.symm).2;omega
  have hne5:some (w1.heap.size+1)≠(Value.slice g (Puny.basics l).length mc).ownBlock:=fun e=>by have:=(hown.lt _ e.symm).2;omega
  gi_wp2_with (first
   | (gi_at_builtin;refine wpListIn_append_own _ rfl _ _ 40 rfl w.heap.size 5 i0 (.int .u8 0) 1 1 Tryz.underlying40 hi hz0 hz1 hz2 rfl (by decide) _ _ _ rfl (((hown.alloc _).alloc _).alloc _) ⟨w1.heap.size+1+1,0,none⟩ 1 1 [.int .u8 45] rfl (by rfl) hnw (by simp[Value.oneCell']) (by unfold maxLen;omega) (by omega) (by simp;omega) ?_;intro v' w2 hown2 hgrow2 _;obtain⟨g',cap',rfl⟩:=ownsRow_succ hown2;have hb4:=(hgrow2.block w1.heap.size (by simp;omega) hne4).trans (alloc3_0 _ _ _ _);have hb5:=(hgrow2.block (w1.heap.size+1) (by simp) hne5).trans (alloc3_1 _ _ _ _);obtain⟨c4,f4⟩:=box_cell hb4)
   | (refine⟨trivial, ?_⟩;gi_at_call 314;refine (callsIn_wide.2 (firstBias_agg _)).mono ?_;rintro e w3 ⟨rfl,hB3⟩;have hb53:=far_store hb5 (by omega) hB3;have hb43:=at_store hb4 hB3;obtain⟨c53,_⟩:=box_cell hb53;have hl53:=(Array.getElem?_eq_some_iff.1 hb53).1)
   | (refine⟨trivial, ?_⟩;gi_at_call 315;refine (deltas_any _ _ _ _ _ _).mono ?_;rintro e w' ⟨rfl,rfl⟩)
   | fail)
  have hl43:w1.heap.size<w3.heap.size:=by omega
  have hbn:Puny.basics l≠[]:=fun e=>hb0 (by rw[e];rfl)
  have hBa:Below w1.heap.size w1 (((w1.alloc (.cells #[.slice g (Puny.basics l).length mc] 40)).alloc (.cells #[.int .i64 ((Puny.basics l).length:Int)] 2)).alloc (.cells #[.int .u8 45] 5)):=(((Below.refl _ w1).alloc (Nat.le_refl _) _).alloc (by simp) _).alloc (by simp;omega) _
  have hBb:Below w.heap.size w w2:=(hB.trans (hBa.mono hsz)).grown hgrow2 (by simp;omega) (fun j e=>(hown.lt j e).1)
  have hBw3:Below w.heap.size w w3:=(hBb.setCell (p:=⟨w1.heap.size,0,none⟩) hsz _).trans (hB3.mono (by have:=hBb.size;simpa using this))
  have hown3:w3.ownsRow w.heap.size 5 1 (.slice (some ⟨g',0,none⟩) ((Puny.basics l).length+1) cap') (txt l []).length (cb (txt l [])):=by
   have h2:w3.ownsRow w.heap.size 5 1 (.slice (some ⟨g',0,none⟩) ((Puny.basics l).length+1) cap') ((Puny.basics l).length+1) (cb (Puny.basics l)++[.int .u8 45]) :=
    own_of_heap hown2 (fun j hj=>by
     have hj2:=(Array.getElem?_eq_some_iff.1 hb4).1
     obtain⟨o,ho⟩:∃ o,w2.heap[j]? = some o:=⟨_,Array.getElem?_eq_getElem (hown2.lt j hj).2⟩
     rw[ho]
     exact far_store ho (own_ne hown2 hb4 (by decide) j hj) hB3)
   rw[txt_nil];simpa[head,hbn] using h2
  obtain⟨W,hW⟩:∃ W,((w3.alloc (.cells #[.int .i64 72,.int .i64 700] 353)).alloc (.cells #[.slice A len cap] 22)).alloc (.cells #[.int .i64 ((Puny.basics l).length:Int)] 2)=W:=⟨_,rfl⟩
  have hWs:W.heap.size=w3.heap.size+3:=by rw[<-hW];simp
  have hBW:Below w3.heap.size w3 W:=by rw[<-hW];exact (((Below.refl _ w3).alloc (Nat.le_refl _) _).alloc (by simp) _).alloc (by simp;omega) _
  have hb6:W.heap[w3.heap.size]? = some (.cells #[.int .i64 72,.int .i64 700] 353 (0,0)):=by rw[<-hW];exact alloc3_0 _ _ _ _
  have hbl:W.heap[w3.heap.size+1]? = some (.cells #[.slice A len cap] 22 (0,0)):=by rw[<-hW];exact alloc3_1 _ _ _ _
  have hbh:W.heap[w3.heap.size+1+1]? = some (.cells #[.int .i64 ((Puny.basics l).length:Int)] 2 (0,0)):=by rw[<-hW];exact alloc3_2 _ _ _ _
  have hst:=enc_start (B4:=w1.heap.size) (B5:=w1.heap.size+1) (hBW.block _ hl43 |>.trans hb43) (hBW.block _ hl53 |>.trans hb53) hb6 (own_of_heap hown3 (fun j hj=>hBW.block j (hown3.lt j hj).2)) (fun j hj=>(hown3.lt j hj).2) (fun j hj=>own_ne hown3 hb43 (by decide) j hj) (fun j hj=>own_ne hown3 hb53 (by decide) j hj) (hBw3.trans (hBW.mono (by have:=hBw3.size;omega)))
  have hrW:Row W w.heap.size A (cn l):=(HR.out.below hBw3).below (hBW.mono (by have:=hBw3.size;omega))
  have hwW:w.heap.size<=w3.heap.size:=hBw3.size
  have HST:=Lib.hid hst
  have HRW:=Lib.hid hrW
  have HBL:=Lib.hid hbl
  have HBH:=Lib.hid hbh
  have HBW3:=Lib.hid hBw3
  generalize hgW:((w3.alloc (.cells #[.int .i64 72,.int .i64 700] 353)).alloc (.cells #[.slice A len cap] 22)).alloc (.cells #[.int .i64 ((Puny.basics l).length:Int)] 2)=W' at hW ⊢
  subst hW
  clear hgW hst hrW hbl hbh hb6 hBw3 hown3
  refine wpIn_iter (F:=Fence.wide) rfl h1 (gf:=359) (lb:=#[.pointer (some ⟨w3.heap.size+1,0,none⟩),.pointer (some ⟨w3.heap.size+1+1,0,none⟩)]) rfl trivial (enters_of Tryz.func359 (by kernel_rfl) rfl)
   (encs:=encs) (G:=fun _ d=>d<=3000000000) (S:=fun xs=>xs=deltas l) (Sp:=fun _=>True) (N:=len) (n0:=w.heap.size) (n1:=w3.heap.size+1) (by omega) (by omega) (fun _=>rfl)
   (fun W0 hB0 hs0=>deltas1_in N HS.out hN (n-1) (by omega) w.heap.size (w3.heap.size+1) W'.heap.size (w3.heap.size+1) A len cap l HLEN.out ho hm (fun x hx=>by have:=HSC.out x hx;simp[sca]at this;omega) (by omega) (Nat.le_refl _) (by omega) W0 hs0
    (HRW.out.below (hB0.mono (by omega))) ((hB0.block _ (by omega)).trans HBL.out) ((hB0.block _ (by omega)).trans HBH.out))
   (fun H pre X=>EncI l w (w3.heap.size+1) w1.heap.size (w1.heap.size+1) w3.heap.size H pre X) (fun _ _=>False)
   (fun H=>encI_ab (by omega) (by omega) (by omega) (by omega)) (fun _ _ _ _ h _ _=>h.elim) (fun H hH=>HST.out H)
   (fun x a' => ∃ u0 u1 u2 u3 u8 u9 u10 u11 u12 u13 u14 u15 u16 u17 u18 u19 u20 u21 u22 u23 u24 u25 u26 u27 u28 u29 u30 u31 u32 u33 u34 u35 u36 u37 u38:Value,a' = { tmps:=#[u0,u1,u2,u3,.pointer (some ⟨w1.heap.size,0,none⟩),.pointer (some ⟨w1.heap.size+1,0,none⟩),.pointer (some ⟨w3.heap.size,0,none⟩),.int .i64 (x:Int),u8,u9,u10,u11,u12,u13,u14,u15,u16,u17,u18,u19,u20,u21,u22,u23,u24,u25,u26,u27,u28,u29,u30,u31,u32,u33,u34,u35,u36,u37,u38],defers:=[] })
   ?assign1 ?body1 ?done1 ?stop1
  case assign1 =>
   intro lp x X K hK
   simp only[encs]
   gi_wp2
   all_goals exact hK _ ⟨_,_,_,_,_,_,_,_,_,_,_,_,_,_,_,_,_,_,_,_,_,_,_,_,_,_,_,_,_,_,_,_,_,_,_,rfl⟩
  case body1 =>
   rintro H lp pre x a' X hH hHX hI ⟨u0,u1,u2,u3,u8,u9,u10,u11,u12,u13,u14,u15,u16,u17,u18,u19,u20,u21,u22,u23,u24,u25,u26,u27,u28,u29,u30,u31,u32,u33,u34,u35,u36,u37,u38,rfl⟩ hlen hgood
   obtain⟨v,b4,b5,b6,hownX,hobX,hBX,hlX,hleadX,hpartX⟩:=hI
   have hn11:1<=n-1-1:=by omega
   have hhl:(head l).length<=2001:=by have:=head_len l;rw[HLEN.out]at this;omega
   obtain⟨lead,part,hlp⟩:∃ lead part,bias pre (Puny.basics l).length 72 700=(lead,part):=⟨_,_,rfl⟩
   rw[hlp]at b6 hleadX hpartX
   obtain⟨k,hk⟩:∃ k,(Puny.basics l).length+pre.length=k:=⟨_,rfl⟩
   rw[hk]at b5
   dsimp only at b6 hleadX hpartX
   have hadd:=addDigits_any w.heap.size v _ _ x lead part X hownX (by omega) hBX.size (by omega) (by omega)
   have e4:w1.heap.size<X.heap.size:=(Array.getElem?_eq_some_iff.1 b4).1
   have e6:w3.heap.size<X.heap.size:=(Array.getElem?_eq_some_iff.1 b6).1
   have n4:=own_ne hownX b4 (by decide)
   have n5:=own_ne hownX b5 (by decide)
   have n6:=own_ne hownX b6 (by decide)
   have hround:=fun (X2:World) (v2:Value) h1 h2=>enc_round (X2:=X2) (v2:=v2) (n1:=w3.heap.size+1) (B4:=w1.heap.size) (B5:=w1.heap.size+1) (B6:=w3.heap.size) (D:=W'.heap.size) (H:=H) (by omega) (by omega) (by omega) (by omega) (by omega) (by omega) (by omega) (by omega) (by omega) (by omega) hH hHX hlp hk b4 b5 b6 hownX hobX hBX hlX hgood h1 h2
   obtain⟨c4,f4⟩:=box_cell b4
   obtain⟨c60,c61,f60,f61⟩:=blk2 b6
   have ek:((k+1:Nat):Int)=(k:Int)+1:=by omega
   have hfol:=fun (u:World) a1 a2 a3 a4=>follow_any w3.heap.size x part (k+1) (lead:Int) u (by omega) hpartX (by omega) (by omega) a1 a2 a3 a4
   simp only[ek]at hfol
   have hkk:k<=4000:=by omega
   have HADD:=Lib.hid hadd
   have HROUND:=Lib.hid hround
   have HFOL:=Lib.hid hfol
   have HB5:=Lib.hid b5
   have HB6:=Lib.hid b6
   have HB4:=Lib.hid b4
   have HN4:=Lib.hid n4
   have HN5:=Lib.hid n5
   have HN6:=Lib.hid n6
   have q1:w3.heap.size≠w1.heap.size:=by omega
   have q2:w3.heap.size≠w1.heap.size+1:=by omega
   clear hadd hround hfol hobX hlX ek hlp hk b4 b5 b6 hownX n4 n5 n6 hBX
   gi_wp2_with (first
    | (refine⟨trivial, ?_⟩;gi_at_call 316;refine (CallsIn.inRound lp (callsIn_wide.2 HADD.out)).mono ?_;rintro e X2 ⟨v2,rfl,hown2,hgr2⟩;have HR2:=Lib.hid (HROUND.out X2 _ hown2 hgr2);have b42:=(hgr2.1.block _ e4 (fun e=>HN4.out _ e.symm rfl)).trans HB4.out;have b52:=(hgr2.1.block _ (Array.getElem?_eq_some_iff.1 HB5.out).1 (fun e=>HN5.out _ e.symm rfl)).trans HB5.out;have b62:=(hgr2.1.block _ e6 (fun e=>HN6.out _ e.symm rfl)).trans HB6.out;obtain⟨A2,m2,rfl⟩:=own_slice hown2;obtain⟨c42,f42⟩:=box_cell b42;obtain⟨c52,f52⟩:=box_cell b52;obtain⟨c620,c621,f620,f621⟩:=blk2 b62;clear hown2 hgr2 b42 b52 b62 c4 f4 c60 c61 f60 f61)
    | (refine⟨trivial, ?_⟩;gi_at_call 317;refine (CallsIn.inRound lp (callsIn_wide.2 (HFOL.out _ (by rw[cell_set_ne q2,cell_set_ne q1];exact c620) (by rw[cell_set_ne q2,cell_set_ne q1];exact c621) (by rw[frozen_set_ne q2,frozen_set_ne q1];exact f620) (by rw[frozen_set_ne q2,frozen_set_ne q1];exact f621)))).mono ?_;rintro e X3 ⟨rfl,rfl⟩)
    | fail)
   have h9:=HR2.out
   simp only[List.length_map]at h9
   exact h9
  case done1 =>
   rintro H xs X hH rfl ⟨v,b4,b5,b6,hownX,hobX,hBX,hlX,hleadX,hpartX⟩ hD
   have hconv:=conv_own hownX
   obtain⟨c4,f4⟩:=box_cell b4
   obtain⟨A2,m2,rfl⟩:=own_slice hownX
   have HENC:=Lib.hid (txt_enc l)
   clear b5 b6 hownX hobX hlX hleadX hpartX
   gi_wp2
   refine⟨by simp,.inl ⟨_,_,rfl,run_takeDeferred hD, ?_⟩⟩
   refine⟨_,results_tmp2 rfl _ _ _,_,rfl,(strOf_txt _).trans HENC.out, ?_⟩
   exact hBX.trans (belowK_b (w:=w) (Nat.le_refl _) X _ _ _ (by omega) hD rfl rfl)
  case stop1 =>
   rintro pre X _ h _
   exact h.elim
theorem Encode_any(N:Nat)(hS:SortOk N)(hN:N<=100000)(l:List Nat)(A:Option Addr)(len cap:Nat)(w:World)(hlen:l.length=len)(ho:(oth l len).length<=N)(hm:len<=2000)(hsc:∀ x∈l,sca x=true)(hr:Row w w.heap.size A (cn l)) :
  Calls Tryz.prog 278 #[.slice A len cap] w (Encoded l w):=callsIn_wide.1 (Encode_in N hS hN 4 (by omega) l A len cap w hlen ho hm hsc hr)
attribute [local go_sem] Oper.semAt_some
def encs2 (x:Nat × Bool):Array Value:=#[.int .i64 (x.1:Int),.bool x.2]
theorem read_any(s:ByteArray)(h:Int)(w:World)(n:Nat) :
  CallsIn Fence.wide n Tryz.prog 306 #[.string s,.int .i64 h] w fun e w' =>
   e = .returned (.func (.func 338) #[] #[.pointer (some ⟨w.heap.size,0,none⟩),.pointer (some ⟨w.heap.size+1,0,none⟩)]) /\
   w'=(w.alloc (.cells #[.string s] 9)).alloc (.cells #[.int .i64 h] 2):=by
 refine callsIn_of_wp Tryz.func306 rfl trivial ?_ rfl
 simp only[Tryz.ntmps306,List.size_toArray,List.length_cons,List.length_nil,Nat.reduceAdd,Nat.reduceSub,Array.replicate_succ,Array.replicate_zero,List.push_toArray,List.append_toArray,List.nil_append,List.cons_append]
 gi_wp2
 go_ret
 exact⟨rfl,rfl⟩
theorem numR_bad{lead h:Nat}{s:List UInt8}(part:Nat)(hs:s≠[])(h0:(numR lead (many*(h+1)) s).2=0):numR lead (many*(h+1)) s=(0,0)/\rdL s h lead part=[(0,false)]:=by
 unfold numR at h0 ⊢
 cases hn:num lead 1 s with
 | none=>exact⟨rfl,rdL_none hs hn⟩
 | some r =>
  obtain⟨d,n⟩:=r
  have:=num_back lead s 1 d n hn
  rw[hn]at h0
  simp only at h0 ⊢
  by_cases hlt:d<many*(h+1)
  ·rw[if_pos hlt]at h0;simp only at h0;omega
  ·rw[if_neg hlt];exact⟨rfl,by rw[rdL_some hs hn,if_neg hlt]⟩
theorem numR_good{lead h d n:Nat}{s:List UInt8}(part:Nat)(hs:s≠[])(hn0:n≠0)(h0:numR lead (many*(h+1)) s=(d,n)) :
  d<many*(h+1)/\n<=s.length/\rdL s h lead part=(d,true)::rdL (s.drop n) (h+1) (next d part (h+1)) 2:=by
 unfold numR at h0
 cases hn:num lead 1 s with
 | none=>rw[hn]at h0;simp only at h0;injection h0 with _ h2;exact absurd h2.symm hn0
 | some r =>
  obtain⟨d',n'⟩:=r
  have hb:=num_back lead s 1 d' n' hn
  rw[hn]at h0
  simp only at h0
  by_cases hlt:d'<many*(h+1)
  ·rw[if_pos hlt]at h0
   injection h0 with h1 h2
   subst h1 h2
   exact⟨hlt,hb.2.2.2,by rw[rdL_some hs hn,if_pos hlt]⟩
  ·rw[if_neg hlt]at h0;injection h0 with _ h2;exact absurd h2.symm hn0
def RdW (Bl Bb D H:Nat) (s:ByteArray) (h lead part:Nat) (W:World):Prop :=
 W.heap[Bl]? = some (.cells #[.string s] 9 (0,0))/\W.heap[Bl+1]? = some (.cells #[.int .i64 (h:Int)] 2 (0,0))/\W.heap[Bb]? = some (.cells #[.int .i64 (lead:Int),.int .i64 (part:Int)] 353 (0,0)) /\
 D+2<=Bb/\Bb<H/\H<=W.heap.size
theorem RdW.kept{n0 n1 Bl Bb D H:Nat}{s:ByteArray}{h lead part:Nat}{W W':World}(hw:RdW Bl Bb D H s h lead part W)(hk:Kept n0 n1 D H W W')(hB1:n1<=Bl)(hB2:Bl+1<D):RdW Bl Bb D H s h lead part W':=by
 obtain⟨h1,h2,h3,h4,h5,h6⟩:=hw
 exact⟨(hk.2 Bl (.inr ⟨by omega,by omega,by omega,by omega⟩)).trans h1,(hk.2 (Bl+1) (.inr ⟨by omega,by omega,by omega,by omega⟩)).trans h2,(hk.2 Bb (.inr ⟨by omega,by omega,by omega,by omega⟩)).trans h3,h4,h5,Nat.le_trans h6 hk.1⟩
theorem RdW.below{Bl Bb D H:Nat}{s:ByteArray}{h lead part:Nat}{W W':World}(hw:RdW Bl Bb D H s h lead part W)(hB:Below W.heap.size W W'):RdW Bl Bb D H s h lead part W':=by
 obtain⟨h1,h2,h3,h4,h5,h6⟩:=hw
 exact⟨(hB.block _ (Array.getElem?_eq_some_iff.1 h1).1).trans h1,(hB.block _ (Array.getElem?_eq_some_iff.1 h2).1).trans h2,(hB.block _ (Array.getElem?_eq_some_iff.1 h3).1).trans h3,h4,h5,Nat.le_trans h6 hB.size⟩
theorem grown_store1(W:World)(B:Nat)(v:Value):W.grownBy (W.setCell ⟨B,1,none⟩ v) (some B):=by
 have h:=Free.store1 W B v
 exact⟨h.1,h.2.1,h.2.2.1,h.2.2.2.1,fun j hj hn=>h.2.2.2.2 j hj (fun e=>hn (by rw[e]))⟩
theorem RdW.stores{Bl Bb D H:Nat}{s:ByteArray}{h lead part:Nat}{W:World}(hw:RdW Bl Bb D H s h lead part W)(hne:Bb≠Bl)(hB2:Bl+1<D)(hDb:D+2<=Bb)(s':ByteArray)(x:Nat) :
  RdW Bl Bb D H s' (h+1) x 2 ((((W.setCell ⟨Bl,0,none⟩ (.string s')).setCell ⟨Bl+1,0,none⟩ (.int .i64 ((h:Int)+1))).setCell ⟨Bb,0,none⟩ (.int .i64 (x:Int))).setCell ⟨Bb,1,none⟩ (.int .i64 2)):=by
 obtain⟨h1,h2,h3,h4,h5,h6⟩:=hw
 refine⟨?_, ?_, ?_,h4,h5,by simpa using h6⟩
 ·rw[heap_set_ne (by omega),heap_set_ne (by omega),heap_set_ne (by omega)];exact heap_set1 h1
 ·rw[heap_set_ne (by omega),heap_set_ne (by omega)]
  exact heap_set1 ((heap_set_ne (W:=W) (o:=0) (v:=.string s') (B:=Bl+1) (B':=Bl) (by omega)).trans h2)
 ·have h7:=(heap_set_ne (W:=(W.setCell ⟨Bl,0,none⟩ (.string s'))) (o:=0) (v:=.int .i64 ((h:Int)+1)) (B:=Bb) (B':=Bl+1) (by omega)).trans ((heap_set_ne (W:=W) (o:=0) (v:=.string s') hne).trans h3)
  rw[heap_set21 (heap_set20 h7)]
  rfl
def RRel (s0:ByteArray) (h0 Bl Bb D H:Nat) (J:Nat->List (Nat × Bool)->World->Prop) (k:Nat) (wr:World):Prop :=
 ∃ (s : ByteArray) (h lead part : Nat) (pre : List (Nat × Bool)), s.size ≤ k ∧ s.size ≤ s0.size ∧ Hid (rdL s0.data.toList h0 72 700 = pre ++ rdL s.data.toList h lead part) ∧ h = h0 + pre.length ∧ pre.length + s.size ≤ s0.size ∧ lead ≤ 100000000000 ∧ 0 < part ∧
  Hid (J H pre wr)/\RdW Bl Bb D H s h lead part wr
theorem str_ne{s:ByteArray}(h:s.size≠0):s.data.toList≠[]:=by
 intro e
 have:s.data.toList.length=0:=by rw[e];rfl
 simp at this
 exact h (by rw[<-ByteArray.size_data,this];rfl)
theorem read1_in(n:Nat)(hn:2<=n)(n0 n1 D Bl h0:Nat)(s0:ByteArray)(hs0:s0.size<=10000)(hh0:h0<=10000)
  (hB1:n1<=Bl) (hB2:Bl+1<D) (W0:World) (hW0:W0.heap.size=D+2)
  (hbl:W0.heap[Bl]? = some (.cells #[.string s0] 9 (0,0))) (hbh:W0.heap[Bl+1]? = some (.cells #[.int .i64 (h0:Int)] 2 (0,0))) :
  Iter Fence.wide n Tryz.prog 338 #[.pointer (some ⟨Bl,0,none⟩),.pointer (some ⟨Bl+1,0,none⟩)] encs2 n0 n1 D (fun _ x=>x.1<=30000000000) (fun xs=>xs=rdL s0.data.toList h0 72 700) (fun pre=>pre <+: rdL s0.data.toList h0 72 700) (s0.size+1) W0:=by
 intro J Jx hJ hY hst
 have HJ:=Lib.hid hJ
 have HY:=Lib.hid hY
 have HB:=Lib.hid hbl
 have HH:=Lib.hid hbh
 have HST:=Lib.hid hst
 have hn10:1<=n:=by omega
 have hn11:1<=n-1:=by omega
 clear hJ hY hbl hbh hst
 refine callsIn_of_wp Tryz.func338 rfl trivial ?_ rfl
 simp only[Tryz.ntmps338,List.size_toArray,List.length_cons,List.length_nil,Nat.reduceAdd,Nat.reduceSub,Array.replicate_succ,Array.replicate_zero,List.push_toArray,List.append_toArray,List.nil_append,List.cons_append]
 gi_wp2_with fail
 refine⟨trivial,(callsIn_wide.2 (firstBias_agg _)).mono ?_⟩
 rintro e w1 ⟨rfl,hB⟩
 gi_wp2_with fail
 have hW1:D+2<=w1.heap.size:=by have:=hB.size;omega
 have hbA:Below W0.heap.size W0 (w1.alloc (.cells #[.int .i64 72,.int .i64 700] 353)):=hB.trans (((Below.refl _ w1).alloc (Nat.le_refl _) _).mono hB.size)
 have hit:RdW Bl w1.heap.size D (w1.heap.size+1) s0 h0 72 700 (w1.alloc (.cells #[.int .i64 72,.int .i64 700] 353)) :=
  ⟨(hbA.block Bl (by omega)).trans HB.out,(hbA.block (Bl+1) (by omega)).trans HH.out,World.alloc_heap_new _ _,hW1,by omega,by simp⟩
 have hJ0:J (w1.heap.size+1) [] (w1.alloc (.cells #[.int .i64 72,.int .i64 700] 353)):=HJ.out _ [] W0 _ none (HST.out _ (by omega)) ⟨hbA.os,hbA.tape,hbA.output,hbA.size,fun j hj _=>hbA.block j hj⟩ (fun r e=>by cases e)
 have HJ0:=Lib.hid hJ0
 have HIT:=Lib.hid hit
 clear hbA hJ0 hit hB
 gi_loopg [] (s0.size) (fun k wr=>RRel s0 h0 Bl w1.heap.size D (w1.heap.size+1) J k wr)
 case atStart=>exact⟨s0,h0,72,700,[],Nat.le_refl _,Nat.le_refl _,Lib.hid rfl,rfl,by simp,by omega,by omega,HJ0,HIT.out⟩
 case round =>
  obtain⟨s,h,lead,part,pre,hk,hss,HL,hh,hps,hle,hpp,HJP,hit⟩:=hrel
  have hhb:h<=20000:=by omega
  have HHH:=Lib.hid hh
  clear hh
  obtain⟨c1,f1⟩:=box_cell hit.1
  obtain⟨c2,f2⟩:=box_cell hit.2.1
  obtain⟨c30,c31,f30,f31⟩:=blk2 hit.2.2.1
  have HIT2:=Lib.hid hit
  clear HIT HJ0
  by_cases hs:s.size=0
  ·have hsl:s.toList=[]:=by rw[Lib.toList_data];exact List.eq_nil_of_length_eq_zero (by simpa using hs)
   have hse:s.toList.isEmpty=true:=by rw[hsl];rfl
   have hsd:s.data.toList=[]:=by rw[<-Lib.toList_data];exact hsl
   have HSD:=Lib.hid hsd
   clear hsd hsl
   gi_wp2
   go_end0
   exact⟨⟨_,rfl⟩,.inl ⟨_,pre,by omega,by rw[HL.out,HSD.out,rdL_nil,List.append_nil],HJP.out⟩⟩
  ·have hsne:=str_ne hs
   have hse:s.toList.isEmpty=false:=by
    rw[Lib.toList_data];cases hx:s.data.toList with
    | nil=>exact absurd hx hsne
    | cons=>rfl
   have elim:((many*(h+1):Nat):Int)=1114112*((h:Int)+1):=by show ((1114112*(h+1):Nat):Int)=_;omega
   have hnum:=number_any s lead part (many*(h+1)) wr (by omega) (by omega) (by show 0<1114112*_;omega) (by show 1114112*_<=_;omega)
   rw[elim]at hnum
   unfold Numbered at hnum
   by_cases h0r:(numR lead (many*(h+1)) s.data.toList).2=0
   ·obtain⟨hr1,hr2⟩:=numR_bad part hsne h0r
    rw[hr1]at hnum
    have hcon:Calls Tryz.prog 339 #[.string s,.agg #[.int .i64 lead,.int .i64 part],.int .i64 (1114112*((h:Int)+1))] wr fun e w'=>e = .returned (.tuple #[.int .i64 0,.int .i64 0])/\Below wr.heap.size wr w':=hnum
    have HCON:=Lib.hid hcon
    have HR2:=Lib.hid hr2
    clear hnum hcon hr1 hr2 h0r hsne elim
    gi_wp2_with fail
    refine⟨trivial,(callsIn_wide.2 HCON.out).mono ?_⟩
    rintro e w2 ⟨rfl,hB2w⟩
    have hit2:=HIT2.out.below hB2w
    have hJ2:J (w1.heap.size+1) pre w2:=HJ.out _ pre wr w2 none HJP.out ⟨hB2w.os,hB2w.tape,hB2w.output,hB2w.size,fun j hj _=>hB2w.block j hj⟩ (fun r e=>by cases e)
    obtain⟨fn,tmps,assign,body,hy,hR⟩:=HY.out _ pre (0,false) w2 (by omega) hit2.2.2.2.2.2 hJ2 (by omega) (by simp)
    have hy2:(Instr.yield (D+1) #[.int .i64 0,.bool false]).run Tryz.prog w2 = .ok (.round (D+1) fn tmps assign body) w2:=hy
    clear hit2 hJ2 hy c1 f1 c2 f2 c30 c31 f30 f31 hit
    gi_wp2
    refine hR.mono ?_
    rintro e W3 (⟨rfl,hJ3,hk3⟩|⟨rfl,hJx3⟩)
    ·gi_wp2
     refine bodyPost_ret (results_none rfl _ _ _) rfl ?_
     exact⟨⟨_,rfl⟩,.inl ⟨_,_,by omega,by rw[HL.out,HR2.out],hJ3⟩⟩
    ·gi_wp2
     refine bodyPost_ret (results_none rfl _ _ _) rfl ?_
     exact⟨⟨_,rfl⟩,.inr ⟨_,by rw[HL.out,HR2.out];exact List.prefix_refl _,hJx3⟩⟩
   ·obtain⟨d,nn,hdn⟩:∃ d nn,numR lead (many*(h+1)) s.data.toList=(d,nn):=⟨_,_,rfl⟩
    have hnn0:nn≠0:=by rw[hdn]at h0r;exact h0r
    obtain⟨hd1,hd2,hd3⟩:=numR_good part hsne hnn0 hdn
    rw[hdn]at hnum
    have hd1':d<1114112*(h+1):=hd1
    have hns:nn<=s.size:=by simpa using hd2
    have hcon:Calls Tryz.prog 339 #[.string s,.agg #[.int .i64 lead,.int .i64 part],.int .i64 (1114112*((h:Int)+1))] wr fun e w'=>e = .returned (.tuple #[.int .i64 (d:Int),.int .i64 (nn:Int)])/\Below wr.heap.size wr w':=hnum
    have HCON:=Lib.hid hcon
    have HD3:=Lib.hid hd3
    have HLN:=Lib.hid (ext_drop s nn s.size rfl)
    have hsz2:(s.extract nn s.size).size=s.size-nn:=by simp
    have HSZ:=Lib.hid hsz2
    have hp1:0<(nn:Int):=by omega
    have hp0:0<nn:=by omega
    have hp2:((nn:Int)==0)=false:=by simp;omega
    have hp3:(nn:Int)<=(s.size:Int):=by omega
    have hpp2:=next_le d part (h+1)
    have ek:((h+1:Nat):Int)=(h:Int)+1:=by omega
    have hfol:=fun (u:World) a1 a2 a3 a4=>follow_any w1.heap.size d part (h+1) (lead:Int) u (by omega) hpp (by omega) (by omega) a1 a2 a3 a4
    simp only[ek]at hfol
    have HFOL:=Lib.hid hfol
    have q1:w1.heap.size≠Bl:=by omega
    have q2:w1.heap.size≠Bl+1:=by omega
    clear hnum hcon hd3 hdn h0r hsne elim hd2 hsz2 hd1 hfol ek
    gi_wp2_with fail
    refine⟨trivial,(callsIn_wide.2 HCON.out).mono ?_⟩
    rintro e w2 ⟨rfl,hB2w⟩
    have hit2:=HIT2.out.below hB2w
    have HIT3:=Lib.hid hit2
    have hJ2:J (w1.heap.size+1) pre w2:=HJ.out _ pre wr w2 none HJP.out ⟨hB2w.os,hB2w.tape,hB2w.output,hB2w.size,fun j hj _=>hB2w.block j hj⟩ (fun r e=>by cases e)
    obtain⟨fn,tmps,assign,body,hy,hR⟩:=HY.out _ pre (d,true) w2 (by omega) hit2.2.2.2.2.2 hJ2 (by omega) (by show d<=_;omega)
    have hy2:(Instr.yield (D+1) #[.int .i64 (d:Int),.bool true]).run Tryz.prog w2 = .ok (.round (D+1) fn tmps assign body) w2:=hy
    clear hit2 hJ2 hy c1 f1 c2 f2 c30 c31 f30 f31 hit
    gi_wp2_with fail
    refine hR.mono ?_
    rintro e W3 (⟨rfl,hJ3,hk3⟩|⟨rfl,hJx3⟩)
    ·have hit4:=HIT3.out.kept hk3 hB1 hB2
     have hJ4:J (w1.heap.size+1) (pre++[(d,true)]) ((((W3.setCell ⟨Bl,0,none⟩ (.string (s.extract nn s.size))).setCell ⟨Bl+1,0,none⟩ (.int .i64 ((h:Int)+1))).setCell ⟨w1.heap.size,0,none⟩ (.int .i64 (next d part (h+1):Nat))).setCell ⟨w1.heap.size,1,none⟩ (.int .i64 2)):=by
      have a1:=HJ.out _ _ _ _ (some Bl) hJ3 (grownBy_setCell' W3 Bl (.string (s.extract nn s.size))) (fun r e=>by cases e;exact⟨by omega,by omega,by omega,by omega⟩)
      have a2:=HJ.out _ _ _ _ (some (Bl+1)) a1 (grownBy_setCell' _ (Bl+1) (.int .i64 ((h:Int)+1))) (fun r e=>by cases e;exact⟨by omega,by omega,by omega,by omega⟩)
      have a3:=HJ.out _ _ _ _ (some w1.heap.size) a2 (grownBy_setCell' _ w1.heap.size (.int .i64 (next d part (h+1):Nat))) (fun r e=>by cases e;exact⟨by omega,by omega,by omega,by omega⟩)
      exact HJ.out _ _ _ _ (some w1.heap.size) a3 (grown_store1 _ w1.heap.size (.int .i64 2)) (fun r e=>by cases e;exact⟨by omega,by omega,by omega,by omega⟩)
     have hit5:=hit4.stores (by omega) hB2 hW1 (s.extract nn s.size) (next d part (h+1))
     have HIT5:=Lib.hid hit5
     have HJ4:=Lib.hid hJ4
     obtain⟨c1,f1⟩:=box_cell hit4.1
     obtain⟨c2,f2⟩:=box_cell hit4.2.1
     obtain⟨c30,c31,f30,f31⟩:=blk2 hit4.2.2.1
     clear hit4 hit5 hJ4 hJ3 hk3
     gi_wp2_with (first
      | (refine⟨trivial, ?_⟩;gi_at_call 317;refine (callsIn_wide.2 (HFOL.out _ (by rw[cell_set_ne q2,cell_set_ne q1];exact c30) (by rw[cell_set_ne q2,cell_set_ne q1];exact c31) (by rw[frozen_set_ne q2,frozen_set_ne q1];exact f30) (by rw[frozen_set_ne q2,frozen_set_ne q1];exact f31))).mono ?_;rintro e X3 ⟨rfl,rfl⟩)
      | fail)
     gi_roundg (s.size-nn)
     case measure=>omega
     case rel =>
      exact⟨s.extract nn s.size,h+1,next d part (h+1),2,pre++[(d,true)],by rw[HSZ.out];exact Nat.le_refl _,by rw[HSZ.out];omega,Lib.hid (by rw[HL.out,HD3.out,HLN.out];simp),by have:=HHH.out;simp;omega,by rw[HSZ.out];simp;omega,by omega,by omega,HJ4,HIT5.out⟩
    ·gi_wp2
     refine bodyPost_ret (results_none rfl _ _ _) rfl ?_
     exact⟨⟨_,rfl⟩,.inr ⟨_,⟨rdL ((s.data.toList).drop nn) (h+1) (next d part (h+1)) 2,by rw[HL.out,HD3.out];simp⟩,hJx3⟩⟩
end Go.Proofs.YtkibdkfdffkkfaaGreatDoor.Pn
