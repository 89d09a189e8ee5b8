import Derived.Test.YtkibdkfdffkkfaaGreatDoorPk34
import Derived.Test.YtkibdkfdffkkfaaGreatDoorPk35
set_option maxRecDepth 100000
set_option maxHeartbeats 8000000
namespace Go.Proofs.YtkibdkfdffkkfaaGreatDoor.Sx
open Go.RowKit Go.Shelf
def RowR (o:Option (List Nat)) (w:World) (e:Ending) (w':World):Prop :=
 (match o with|some y => ∃ A c,e = .returned (.slice A y.length c)/\Row w' w'.heap.size A (cu y)|none=>e = .returned (.slice none 0 0))/\Below w.heap.size w w'
theorem cut3_four{l a b c d:List UInt8}(h:cut3 3 l=[a,b,c,d]):four l=(dec a).bind fun a=>(dec b).bind fun b=>(dec c).bind fun c=>(dec d).bind fun d=>some [a*256+b,c*256+d]:=by
 unfold four
 rw[cut3]at h
 cases h1:cutg [46] l with
 | none=>rw[h1]at h;simp at h
 | some p =>
  rw[h1]at h
  simp only[List.cons.injEq]at h
  obtain⟨rfl,h⟩:=h
  rw[cut3]at h
  simp only[Option.bind_some]
  cases h2:cutg [46] p.2 with
  | none=>rw[h2]at h;simp at h
  | some q =>
   rw[h2]at h
   simp only[List.cons.injEq]at h
   obtain⟨rfl,h⟩:=h
   rw[cut3]at h
   simp only[Option.bind_some]
   cases h3:cutg [46] q.2 with
   | none=>rw[h3]at h;simp at h
   | some r =>
    rw[h3]at h
    simp only[cut3,List.cons.injEq,and_true]at h
    obtain⟨rfl,rfl⟩:=h
    rfl
theorem cut3_not{l:List UInt8}(h:(cut3 3 l).length≠4):four l=none:=by
 unfold four
 rw[cut3]at h
 cases h1:cutg [46] l with
 | none=>rfl
 | some p =>
  rw[h1]at h
  rw[Option.bind_some]
  simp only at h
  rw[cut3]at h
  cases h2:cutg [46] p.2 with
  | none=>rfl
  | some q =>
   rw[h2]at h
   rw[Option.bind_some]
   simp only at h
   rw[cut3]at h
   cases h3:cutg [46] q.2 with
   | none=>rfl
   | some r =>
    rw[h3]at h
    simp[cut3]at h
theorem four_len{ps:List (List UInt8)}(h:ps.length=4):∃ a b c d,ps=[a,b,c,d]:=by
 rcases ps with _|⟨a,_|⟨b,_|⟨c,_|⟨d,_|⟨e,t⟩⟩⟩⟩⟩
 ·simp at h
 ·simp at h
 ·simp at h
 ·simp at h
 ·exact⟨a,b,c,d,rfl⟩
 ·simp at h
theorem four_bad{l p:List UInt8}(h4:(cut3 3 l).length=4)(hp:p∈cut3 3 l)(hd:dec p=none):four l=none:=by
 obtain⟨a,b,c,d,e⟩:=four_len h4
 rw[cut3_four e]
 rw[e]at hp
 simp only[List.mem_cons,List.not_mem_nil,or_false]at hp
 rcases hp with rfl|rfl|rfl|rfl
 ·rw[hd];rfl
 ·rw[hd];cases dec a<;>rfl
 ·rw[hd];cases dec a<;>cases dec b<;>rfl
 ·rw[hd];cases dec a<;>cases dec b<;>cases dec c<;>rfl
theorem four_good{l:List UInt8}{a b c d:Nat}(h:(cut3 3 l).map dec=[some a,some b,some c,some d]):four l=some [a*256+b,c*256+d]:=by
 obtain⟨p,q,r,s,e⟩:=four_len (ps:=cut3 3 l) (by have:=congrArg List.length h;simpa using this)
 rw[e]at h
 simp only[List.map_cons,List.map_nil,List.cons.injEq,and_true]at h
 rw[cut3_four e,h.1,h.2.1,h.2.2.1,h.2.2.2]
 rfl
theorem dec_bound{p:List UInt8}{n:Nat}(h:dec p=some n):n<256:=(dec_some h).2.2.1
theorem d10_bound{p:List UInt8}{n:Nat}(h:d10 p=some n):n<256:=by
 unfold d10 at h
 split at h
 ·cases h
 ·split at h
  ·split at h
   ·obtain rfl:=Option.some.inj h;assumption
   ·cases h
  ·cases h
def F4 (w:World) (B:Nat) (ds:List Nat):Prop:=w.heap[B]? = some (.cells (cu (ds++List.replicate (4-ds.length) 0)).toArray 298 (0,0))
theorem F4.new(w:World):F4 (w.alloc (.cells #[.int .u16 0,.int .u16 0,.int .u16 0,.int .u16 0] 298)) w.heap.size []:=World.alloc_heap_new w _
theorem F4.lt{w:World}{B:Nat}{ds:List Nat}(h:F4 w B ds):B<w.heap.size:=(Array.getElem?_eq_some_iff.1 h).1
theorem F4.go{a b:World}{B:Nat}{ds:List Nat}(h:F4 a B ds)(hb:Below a.heap.size a b):F4 b B ds:=(hb.block _ h.lt).trans h
theorem F4.cell{w:World}{B:Nat}{ds:List Nat}(h:F4 w B ds){k:Nat}(hk:k<ds.length):w.cell? ⟨B,k,none⟩=some (.int .u16 (nth ds k:Int)):=by
 rw[cell_of_row w B k _ _ _ h,List.getElem?_toArray,cu_get (by simp;omega),nth,nth,List.getD,List.getD,List.getElem?_append_left hk]
theorem F4.cell0{w:World}{B:Nat}{ds:List Nat}(h:F4 w B ds){k:Nat}(hk:k=ds.length)(hl:k<4):w.cell? ⟨B,k,none⟩=some (.int .u16 0):=by
 subst hk
 rw[cell_of_row w B _ _ _ _ h,List.getElem?_toArray,cu_get (by simp;omega),nth,List.getD,List.getElem?_append_right (Nat.le_refl _),Nat.sub_self,List.getElem?_replicate,if_pos (by omega)]
 rfl
theorem F4.frozen{w:World}{B:Nat}{ds:List Nat}(h:F4 w B ds)(k:Nat):w.frozen? ⟨B,k,none⟩=false:=by
 unfold F4 at h
 simp[World.frozen?,h]
theorem F4.put{w:World}{B:Nat}{ds:List Nat}(h:F4 w B ds){k:Nat}(hk:k=ds.length)(hl:k<4)(v:Nat):F4 (w.setCell ⟨B,k,none⟩ (.int .u16 (v:Int))) B (ds++[v]):=by
 subst hk
 have e:(ds++[v])++List.replicate (4-(ds++[v]).length) 0=(ds++List.replicate (4-ds.length) 0).set ds.length v:=by
  rw[List.append_assoc,List.set_append_right _ _ (Nat.le_refl _),Nat.sub_self,List.length_append,List.length_singleton,show 4-ds.length=(4-(ds.length+1))+1 by omega,List.replicate_succ]
  rfl
 unfold F4 at h ⊢
 rw[e]
 simp only[World.setCell,Array.getElem?_modify,if_true,h,Option.map_some]
 congr 2
 simp[cu]
theorem or8{a b:Nat}(ha:a<256)(hb:b<256):bits .or .u16 ((a:Int)*256) (b:Int)=(a:Int)*256+(b:Int):=by
 have h:(a*256) ||| b=a*256+b:=by
  have:=Nat.shiftLeft_add_eq_or_of_lt (i:=8) (b:=b) hb a
  rw[Nat.shiftLeft_eq]at this
  exact this.symm
 have e:=u16_or_nat (a*256) b (by omega) (by omega)
 rw[h]at e
 simpa using e
theorem cut3_size:∀ (k:Nat) (l p:List UInt8),p∈cut3 k l->p.length<=l.length
 | 0,l,p,h=>by simp[cut3]at h;subst h;exact Nat.le_refl _
 | k + 1, l, p, h => by
  rw[cut3]at h
  cases hc:cutg [46] l with
  | none=>rw[hc]at h;simp at h;subst h;exact Nat.le_refl _
  | some q =>
   rw[hc]at h
   have e:=congrArg List.length (cut1_some hc).1
   rw[List.length_append,List.length_cons]at e
   rcases List.mem_cons.1 h with h|h
   ·subst h;omega
   ·have:=cut3_size k q.2 p h
    omega
theorem dec_snoc{P:Nat->ByteArray}{ds:List Nat}{k v:Nat}(hl:ds.length=k)(h:∀ j,j<k->dec (dl (P j))=some (nth ds j))(hv:dec (dl (P k))=some v):∀ j,j<k+1->dec (dl (P j))=some (nth (ds++[v]) j):=by
 intro j hj
 by_cases e:j=k
 ·subst e
  rw[hv,nth,List.getD,List.getElem?_append_right (by omega),hl,Nat.sub_self]
  rfl
 ·rw[h j (by omega),nth,nth,List.getD,List.getD,List.getElem?_append_left (by omega)]
theorem rowR_none{o:Option (List Nat)}{w w':World}(h:o=none)(hB:Below w.heap.size w w'):RowR o w (.returned (.slice none 0 0)) w':=by subst h;exact⟨rfl,hB⟩
theorem rowR_some{o:Option (List Nat)}{y:List Nat}{A:Option Addr}{n c:Nat}{w w':World}(h:o=some y)(hn:y.length=n)(hr:Row w' w'.heap.size A (cu y))(hB:Below w.heap.size w w'):RowR o w (.returned (.slice A n c)) w':=by subst h;subst hn;exact⟨⟨A,c,rfl,hr⟩,hB⟩
theorem head_of{q:ByteArray}(h:0<q.size):(dl q).head? = some q[0]:=by
 rw[get_dl h,List.head?_eq_getElem?,List.getElem?_eq_getElem]
theorem dec_of{q:ByteArray}(h:¬ (1<q.size/\(dl q).head? = some 48)):dec (dl q)=d10 (dl q):=by
 rw[dec_d10,if_neg]
 rw[show (dl q).length=q.size by simp[dl]]
 exact h
theorem dec_no{q:ByteArray}(h:1<q.size)(h2:(dl q).head? = some 48):dec (dl q)=none:=by
 rw[dec_d10,if_pos]
 rw[show (dl q).length=q.size by simp[dl]]
 exact⟨h,h2⟩
theorem four_any(s:ByteArray)(hs:s.size<=1000000)(w:World)(hE:Env w):Calls Tryz.prog 234 #[.string s] w (RowR (four (dl s)) w):=by
 have HS:=Lib.hid (SplitN_any s hs w hE)
 have HE:=Lib.hid (fun w' (hB:Below w.heap.size w w')=>hE.go hB)
 have hz:(dl s).length=s.size:=by simp[dl]
 have HZ:=Lib.hid hz
 have HSZ:=Lib.hid hs
 clear hE hz hs
 go_enter Tryz.func234,Tryz.ntmps234
 go_wp2_with fail
 refine HS.out.mono ?_
 rintro e w1 ⟨xs,c,rfl,hxs,hcells,hlt1,hB1⟩
 obtain⟨m,hm⟩:∃ m,xs.length=m:=⟨_,rfl⟩
 have hlen:(cut3 3 (dl s)).length=m:=by rw[<-hxs,List.length_map,hm]
 rw[hm]
 by_cases h4:m=4
 ·subst h4
  have HL:=Lib.hid hlen
  obtain⟨P,hP⟩:∃ P:Nat->ByteArray,∀ k,k<4->xs[k]? = some (P k):=⟨fun k=>xs.getD k ByteArray.empty,fun k hk=>by
   show xs[k]? = some (xs.getD k ByteArray.empty)
   rw[List.getD,List.getElem?_eq_getElem (by omega)]
   rfl⟩
  have HC:=Lib.hid (fun k (hk:k<4)=>hcells k (P k) (hP k hk))
  have HPM:Hid (∀ k,k<4->dl (P k)∈cut3 3 (dl s)):=Lib.hid (fun k hk=>by
   rw[<-hxs]
   exact List.mem_map_of_mem (List.mem_of_getElem? (hP k hk)))
  have HPS:Hid (∀ k,k<4->(P k).size<=1000000):=Lib.hid (fun k hk=>by
   have h1:(P k).size=(dl (P k)).length:=by simp[dl]
   have h2:=cut3_size 3 (dl s) _ (HPM.out k hk)
   have:=HZ.out
   have:=HSZ.out
   omega)
  have HP4:Hid (cut3 3 (dl s)=[dl (P 0),dl (P 1),dl (P 2),dl (P 3)]):=Lib.hid (by
   rw[<-hxs]
   refine List.ext_getElem? fun i => ?_
   rw[List.getElem?_map]
   by_cases hi:i<4
   ·rw[hP i hi]
    have:i=0∨i=1∨i=2∨i=3:=by omega
    rcases this with rfl|rfl|rfl|rfl<;>rfl
   ·rw[List.getElem?_eq_none (by omega),List.getElem?_eq_none (by simp;omega)]
    rfl)
  have hF0:=Lib.hid (F4.new w1)
  have hB2:=Lib.hid (upA w1 (.cells #[.int .u16 0,.int .u16 0,.int .u16 0,.int .u16 0] 298))
  have HB1:=Lib.hid hB1
  have HLT:=Lib.hid hlt1
  clear hxs hm hlen hcells hP hB1 hlt1
  go_upto_region 5 with fail
  generalize w1.alloc (.cells #[.int .u16 0,.int .u16 0,.int .u16 0,.int .u16 0] 298)=w2 at hF0 hB2 ⊢
  go_wp2_with fail
  go_loopg [16] 4 (fun g s16 wr => ∃ (k:Nat) (ds:List Nat),s16 = .int .i64 (k:Int)/\4-k=g/\k<=4/\Hid (ds.length=k)/\Hid (∀ j,j<k->dec (dl (P j))=some (nth ds j))/\Hid (F4 wr w1.heap.size ds)/\Hid (Below w1.heap.size w1 wr))
  case atStart=>exact⟨0,[],rfl,rfl,Nat.zero_le _,Lib.hid rfl,Lib.hid (fun j hj=>by omega),hF0,hB2⟩
  case round =>
   clear hF0 hB2
   obtain⟨k,ds,rfl,rfl,hk,HD,HDC,HF,HB⟩:=hrel
   by_cases hlt:k<4
   ·have hltz:(k:Int)<4:=by omega
    have hc:=(HB.out.cell (p:=⟨w.heap.size,k,none⟩) HLT.out).trans (HC.out k hlt)
    have HQS:=Lib.hid (HPS.out k hlt)
    have HQM:=Lib.hid (HPM.out k hlt)
    have HBw:=Lib.hid (HB1.out.trans (HB.out.mono (Nat.le_of_lt HLT.out)))
    obtain⟨q,hq⟩:∃ q,P k=q:=⟨_,rfl⟩
    rw[hq]at hc HQS HQM
    have HQ:=Lib.hid hq
    clear hq
    have HU:=Lib.hid (ParseUint10_any q HQS.out wr (HE.out _ HBw.out))
    cases hd:d10 (dl q) with
    | none =>
     rw[hd]at HU
     have hdn:dec (dl q)=none:=by
      rw[dec_d10,hd]
      split<;>rfl
     have HN:=Lib.hid (four_bad HL.out HQM.out hdn)
     clear hd hdn
     go_wp2_with fail
     refine HU.out.mono ?_
     rintro e w3 ⟨⟨v,te,pe,rfl⟩,hB3⟩
     go_wp2_with fail
     go_ret
     exact rowR_none HN.out (upB HBw.out hB3)
    | some v =>
     rw[hd]at HU
     have hv:=d10_bound hd
     have hv0:(v:Int)<256:=by omega
     have HV:=Lib.hid hv
     have HDD:=Lib.hid hd
     clear hd hv
     by_cases hl:1<q.size
     ·have hlz:(1:Int)<(q.size:Int):=by omega
      have hq0:0<q.size:=by omega
      have hhd:=head_of hq0
      cases hz:((q[0].toNat:Int)==48) with
      | true =>
       have e48:q[0]=48:=byte_eq (k:=48) (by decide) hz
       have HN:=Lib.hid (four_bad HL.out HQM.out (dec_no hl (by rw[hhd,e48])))
       clear e48 hhd
       go_wp2_with fail
       refine HU.out.mono ?_
       rintro e w3 ⟨rfl,hB3⟩
       go_wp2_with fail
       go_ret
       exact rowR_none HN.out (upB HBw.out hB3)
      | false =>
       have e48:q[0]≠48:=byte_ne (k:=48) (by decide) hz
       have HDV:Hid (dec (dl q)=some v):=Lib.hid (by rw[dec_of (by rw[hhd];rintro ⟨_,e⟩;exact e48 (Option.some.inj e)),HDD.out])
       clear e48 hhd
       go_wp2_with fail
       refine HU.out.mono ?_
       rintro e w3 ⟨rfl,hB3⟩
       have HF3:=Lib.hid (HF.out.go hB3)
       have c3:=HF3.out.cell0 HD.out.symm hlt
       have f3:=HF3.out.frozen k
       have HB3:=Lib.hid (HB.out.trans (hB3.mono HB.out.size))
       clear hB3
       go_wp2_with fail
       go_roundg (4-(k+1))
       case measure=>omega
       case rel=>exact⟨k+1,ds++[v],by go_num,rfl,by omega,Lib.hid (by rw[List.length_append,HD.out];rfl),Lib.hid (dec_snoc HD.out HDC.out (by rw[HQ.out];exact HDV.out)),Lib.hid (HF3.out.put HD.out.symm hlt v),Lib.hid (HB3.out.setCell (p:=⟨w1.heap.size,k,none⟩) (Nat.le_refl _) _)⟩
     ·have hlz:¬ (1:Int)<(q.size:Int):=by omega
      have HDV:Hid (dec (dl q)=some v):=Lib.hid (by rw[dec_of (by rintro ⟨e,_⟩;exact hl e),HDD.out])
      clear hl
      go_wp2_with fail
      refine HU.out.mono ?_
      rintro e w3 ⟨rfl,hB3⟩
      have HF3:=Lib.hid (HF.out.go hB3)
      have c3:=HF3.out.cell0 HD.out.symm hlt
      have f3:=HF3.out.frozen k
      have HB3:=Lib.hid (HB.out.trans (hB3.mono HB.out.size))
      clear hB3
      go_wp2_with fail
      go_roundg (4-(k+1))
      case measure=>omega
      case rel=>exact⟨k+1,ds++[v],by go_num,rfl,by omega,Lib.hid (by rw[List.length_append,HD.out];rfl),Lib.hid (dec_snoc HD.out HDC.out (by rw[HQ.out];exact HDV.out)),Lib.hid (HF3.out.put HD.out.symm hlt v),Lib.hid (HB3.out.setCell (p:=⟨w1.heap.size,k,none⟩) (Nat.le_refl _) _)⟩
   ·obtain rfl:k=4:=by omega
    obtain⟨a,b,cc,d,rfl⟩:∃ a b c d,ds=[a,b,c,d]:=by
     have hl:=HD.out
     rcases ds with _|⟨a,_|⟨b,_|⟨c,_|⟨d,_|⟨e,t⟩⟩⟩⟩⟩
     ·simp at hl
     ·simp at hl
     ·simp at hl
     ·simp at hl
     ·exact⟨a,b,c,d,rfl⟩
     ·simp at hl
    have c0:=HF.out.cell (k:=0) (by simp)
    have c1:=HF.out.cell (k:=1) (by simp)
    have c2:=HF.out.cell (k:=2) (by simp)
    have c3:=HF.out.cell (k:=3) (by simp)
    have d0:=HDC.out 0 (by decide)
    have d1:=HDC.out 1 (by decide)
    have d2:=HDC.out 2 (by decide)
    have d3:=HDC.out 3 (by decide)
    simp only[nth,List.getD_cons_zero,List.getD_cons_succ]at c0 c1 c2 c3 d0 d1 d2 d3
    have ha:=dec_bound d0
    have hb:=dec_bound d1
    have hcc:=dec_bound d2
    have hd:=dec_bound d3
    have HN:Hid (four (dl s)=some [a*256+b,cc*256+d]):=Lib.hid (four_good (by rw[HP4.out];simp only[List.map_cons,List.map_nil];rw[d0,d1,d2,d3]))
    have o1:=or8 ha hb
    have o2:=or8 hcc hd
    have HBw:=Lib.hid (HB1.out.trans (HB.out.mono (Nat.le_of_lt HLT.out)))
    have ha':(a:Int)<256:=by omega
    have hc':(cc:Int)<256:=by omega
    have hltz:¬ ((4:Int)<4):=by decide
    clear d0 d1 d2 d3
    go_wp2_with fail
    go_ret
    refine rowR_some HN.out rfl ?_ (upB HBw.out (upA wr _))
    rw[World.size_alloc]
    exact row_new wr _ 25 _ (by simp[cu])
 ·have hmz:((m:Int) != 4)=true:=by simp;omega
  have HN:=Lib.hid (cut3_not (l:=dl s) (by rw[hlen];exact h4))
  clear hlen h4 hm
  go_wp2_with fail
  go_ret
  exact rowR_none HN.out hB1
theorem len_dl(s:ByteArray):(dl s).length=s.size:=by simp[dl]
theorem pt_mem(s:ByteArray):(cutg (dl ⟨#[46]⟩) (dl s)).isSome=decide ((46:UInt8)∈dl s):=by
  show (cutg [46] (dl s)).isSome=_
  cases h:cutg [46] (dl s) with
  | none=>rw[decide_eq_false (cut1_mem h)];rfl
  | some p => rw [decide_eq_true]; rfl
              rw[(cut1_some h).1];simp
theorem pieces_any(s:ByteArray)(q:Bool)(hs:s.size<=1000000)(w:World)(hE:Env w):Calls Tryz.prog 189 #[.string s,.bool q] w (RowR (rd q [dl s]) w):=by
 have HC:=Lib.hid (Contains_any s ⟨#[46]⟩ (by simp[dl]) hs w hE)
 rw[pt_mem]at HC
 have HF:=Lib.hid (four_any s hs w hE)
 have hz:=len_dl s
 by_cases hq:q=true/\(46:UInt8)∈dl s
 ·obtain⟨rfl,hm⟩:=hq
  rw[rd,if_pos ⟨rfl,hm⟩]
  rw[decide_eq_true hm]at HC
  clear hz hm
  go_enter Tryz.func189,Tryz.ntmps189
  go_wp2_with fail
  refine HC.out.mono ?_
  rintro e w1 ⟨rfl,rfl⟩
  go_wp2_with fail
  refine HF.out.mono ?_
  rintro e w2 ⟨h1,hB⟩
  cases ho:four (dl s) with
  | none =>
   rw[ho]at h1
   obtain rfl:=h1
   go_wp2_with fail
   go_ret
   exact rowR_none ho hB
  | some y =>
   rw[ho]at h1
   obtain⟨A,c,rfl,hr⟩:=h1
   go_wp2_with fail
   go_ret
   exact rowR_some ho rfl hr hB
 ·rw[rd,if_neg hq]
  have HR:Hid (∀ (e:Ending) (w':World),RowR ((pce (dl s)).map fun a=>[a]) w e w'->RowR ((pce (dl s)).map fun a=>[a]) w e w'):=Lib.hid (fun _ _ h=>h)
  have hU:=fun (h4:s.size<=4)=>ParseUint16_any s h4 w hE
  have HU:=Lib.hid hU
  have HP:Hid (4<s.size->pce (dl s)=none):=Lib.hid (fun h=>by unfold pce;rw[if_pos (.inr (by omega))])
  have HLT:Hid (∀ n,pce (dl s)=some n->n<65536):=Lib.hid (fun n h=>pce_lt h)
  obtain⟨m,hm⟩:∃ m,decide ((46:UInt8)∈dl s)=m:=⟨_,rfl⟩
  rw[hm]at HC
  have hqm:q=false∨(q=true/\m=false):=by
   cases q with
   | false=>exact .inl rfl
   | true=>exact .inr ⟨rfl,by rw[<-hm];exact decide_eq_false fun e=>hq ⟨rfl,e⟩⟩
  clear hq hm hz hU
  obtain⟨o,ho⟩:∃ o,pce (dl s)=o:=⟨_,rfl⟩
  rw[ho]at HP HLT HU ⊢
  clear HR ho
  by_cases h4:s.size<=4
  ·have h4z:¬ (4<(s.size:Int)):=by omega
   have HU4:=Lib.hid (HU.out h4)
   clear HU
   rcases hqm with rfl|⟨rfl,rfl⟩
   ·go_enter Tryz.func189,Tryz.ntmps189
    cases o with
    | none =>
     go_wp2_with fail
     refine HU4.out.mono ?_
     rintro e w1 ⟨⟨v,te,pe,rfl⟩,hB⟩
     go_wp2_with fail
     go_ret
     exact⟨rfl,hB⟩
    | some n =>
     have hn:=HLT.out n rfl
     have hnz:(n:Int)<65536:=by omega
     go_wp2_with fail
     refine HU4.out.mono ?_
     rintro e w1 ⟨rfl,hB⟩
     go_wp2_with fail
     go_ret
     refine rowR_some rfl rfl ?_ (upB hB (upA w1 _))
     rw[World.size_alloc]
     exact row_new w1 _ 25 _ (by simp[cu])
   ·go_enter Tryz.func189,Tryz.ntmps189
    cases o with
    | none =>
     go_wp2_with(first|(go_at_call 34;refine HC.out.mono ?_;rintro e w0 ⟨rfl,rfl⟩)|fail)
     refine HU4.out.mono ?_
     rintro e w1 ⟨⟨v,te,pe,rfl⟩,hB⟩
     go_wp2_with fail
     go_ret
     exact⟨rfl,hB⟩
    | some n =>
     have HNN:=Lib.hid (HLT.out n rfl)
     clear HLT HP
     go_wp2_with(first|(go_at_call 34;refine HC.out.mono ?_;rintro e w0 ⟨rfl,rfl⟩)|fail)
     refine HU4.out.mono ?_
     rintro e w1 ⟨rfl,hB⟩
     have hnz:(n:Int)<65536:=by have:=HNN.out;omega
     go_wp2_with fail
     go_ret
     refine rowR_some rfl rfl ?_ (upB hB (upA w1 _))
     rw[World.size_alloc]
     exact row_new w1 _ 25 _ (by simp[cu])
  ·have h4z:decide ((4:Int)<(s.size:Int))=true:=decide_eq_true (by omega)
   have ho:=HP.out (by omega)
   subst ho
   clear HU h4 HP HLT HF
   rcases hqm with rfl|⟨rfl,rfl⟩
   ·go_enter Tryz.func189,Tryz.ntmps189
    go_wp2_with fail
    go_ret
    exact⟨rfl,Below.refl _ _⟩
   ·go_enter Tryz.func189,Tryz.ntmps189
    go_wp2_with(first|(go_at_call 34;refine HC.out.mono ?_;rintro e w0 ⟨rfl,rfl⟩)|fail)
    go_ret
    exact⟨rfl,Below.refl _ _⟩
theorem info_split{i:TypeId}{z:Value}{a b:Nat}(h:(Tryz.prog.info? i).map (fun i=>(i.zero,i.size,i.bytes))=some (some z,a,b)):∃ x,Tryz.prog.info? i=some x/\x.zero=some z/\x.size=a/\x.bytes=b:=by
 cases hx:Tryz.prog.info? i with
 | none=>rw[hx]at h;cases h
 | some x=>rw[hx]at h;simp only[Option.map_some,Option.some.injEq,Prod.mk.injEq]at h;exact⟨x,rfl,h.1,h.2.1,h.2.2⟩
theorem own_form{w:World}{base:Nat}{e:TypeId}{size n:Nat}{v:Value}{xs:List Value}(h:w.ownsRow base e size v n xs):∃ A c,v = .slice A n c/\n<=c/\Row w w.heap.size A xs:=by
 rcases h.2 with ⟨rfl,rfl⟩|⟨g,cap,cur,rfl,_,_,hc,_⟩
 ·exact⟨none,0,rfl,by omega,.of_own h⟩
 ·exact⟨_,cap,rfl,hc,.of_own h⟩
theorem wpList_appU{ops:Array Oper}{rest:List Oper}{o:Oper}{a:Act}{Q:Exit->Act->World->Prop}(B:Nat)(W:World)(hgd:o.guard=none)(s x:Operand)
  (ho:o.op = .call { callee:=.builtin .append,args:=#[s,x],argTypes:=#[182,182] })
  (v:Value) (n m:Nat) (xs ys:List Nat) (hs:a.eval s=v) (hown:W.ownsRow B 25 1 v n (cu xs)) (hB:B<=W.heap.size) (A:Option Addr) (k c:Nat)
  (hx:a.eval x = .slice A k c) (hk:ys.length=k) (hr:Row W W.heap.size A (cu ys)) (hm:n+k=m) (hm2:m<=1000)
  (h:∀ A' c' w',w'.ownsRow B 25 1 (.slice A' m c') m (cu (xs++ys))->Below B W w'->wpList Tryz.prog ops Q rest (a.put o.dst (.slice A' m c')) w') :
  wpList Tryz.prog ops Q (o::rest) a W:=by
 subst hm
 obtain⟨i0,hi,hz0,hz1,hz2⟩:=info_split info_u
 refine wpList_append_row _ hgd s x 182 ho B 25 i0 (.int .u16 0) 1 2 Tryz.underlying182 hi hz0 hz1 hz2 rfl (Nat.zero_lt_succ 0) v n (cu xs) hs hown W.heap.size A k c (cu ys) hx (by rw[cu_len,hk,Nat.mul_one]) hr (one_cu ys) (by unfold maxLen;omega) (by omega) hB ?_
 intro v' w' hO hg
 have hB2:=(Below.refl B W).grown hg hB (fun j e=>(hown.lt j e).1)
 obtain⟨A',c',rfl,_,_⟩:=own_form hO
 exact h A' c' w' (by rw[cu_app];exact hO) hB2
def gos (emb:Bool) (xs:List Nat) (r:List UInt8):Option (List Nat):=match rd emb (spl r) with
 | some y=>if xs.length+y.length<=8 then some (xs++y) else none
 | none=>none
theorem rdt_nil(emb:Bool):rdt emb []=some []:=rfl
theorem rdt_gos{emb:Bool}{l:List UInt8}(h:l≠[]):rdt emb l=gos emb [] l:=by
 unfold rdt gos prt
 rw[if_neg h]
 cases rd emb (spl l) with
 | none=>rfl
 | some y=>simp
theorem gos_last{emb:Bool}{xs:List Nat}{r:List UInt8}(h:cutg [58] r=none):gos emb xs r=match rd emb [r] with|some y=>if xs.length+y.length<=8 then some (xs++y) else none|none=>none:=by
 unfold gos
 rw[spl_one r (cut1_mem h)]
theorem rd_pos{emb:Bool}:∀ {ps:List (List UInt8)} {y:List Nat},ps≠[]->rd emb ps=some y->1<=y.length
 | [],_,h,_=>absurd rfl h
 | [p], y, _, h => by
  rw[rd]at h
  split at h
  ·obtain⟨a,b,c,d,_,_,rfl,_⟩:=four_some h;simp
  ·obtain⟨a,_,rfl⟩:=Option.map_eq_some_iff.1 h;simp
 | p :: q :: r, y, _, h => by
  rw[rd]at h
  obtain⟨a,_,h⟩:=Option.bind_eq_some_iff.1 h
  obtain⟨l,_,rfl⟩:=Option.map_eq_some_iff.1 h
  simp
theorem gos_more{emb:Bool}{xs:List Nat}{r:List UInt8}{p:List UInt8 × List UInt8}(h:cutg [58] r=some p):gos emb xs r=match rd false [p.1] with|some y=>if xs.length+y.length<=8 then gos emb (xs++y) p.2 else none|none=>none:=by
 obtain⟨h1,h2⟩:=cut1_some h
 unfold gos
 rw[h1,spl_app _ _ h2]
 obtain⟨q,t,hq⟩:∃ q t,spl p.2=q::t:=by
  cases hs:spl p.2 with
  | nil=>exact absurd hs (spl_ne _)
  | cons q t=>exact⟨q,t,rfl⟩
 rw[hq,rd,rd,if_neg (by rintro ⟨e,_⟩;cases e)]
 cases hp:pce p.1 with
 | none=>rfl
 | some a =>
  rw[Option.bind_some,Option.map_some]
  simp only
  cases hr:rd emb (q::t) with
  | none=>simp
  | some y =>
   have:=rd_pos (by simp) hr
   rw[Option.map_some]
   simp only[List.length_cons,List.length_append,List.length_nil,List.append_assoc,List.cons_append,List.nil_append]
   by_cases h8:xs.length+(y.length+1)<=8
   ·rw[if_pos h8,if_pos (by omega),if_pos (by omega)]
   ·rw[if_neg h8]
    split
    ·rw[if_neg (by omega)]
    ·rfl
theorem rd_one_len{emb:Bool}{p:List UInt8}{y:List Nat}(h:rd emb [p]=some y):1<=y.length/\y.length<=2:=by
 refine⟨rd_pos (by simp) h, ?_⟩
 rw[rd]at h
 split at h
 ·obtain⟨a,b,c,d,_,_,rfl,_⟩:=four_some h;simp
 ·obtain⟨a,_,rfl⟩:=Option.map_eq_some_iff.1 h;simp
def FRow (w:World) (m:Nat) (A:Option Addr) (xs:List Value):Prop:=xs=[]∨∃ b,A=some ⟨b,0,none⟩/\(m<=b/\b<w.heap.size)/\∀ k,k<xs.length->w.cell? ⟨b,k,none⟩=xs[k]?
theorem FRow.of_own{w:World}{m:Nat}{A:Option Addr}{n c:Nat}{xs:List Nat}(h:w.ownsRow m 25 1 (.slice A n c) n (cu xs))(hn:xs.length=n):FRow w m A (cu xs):=by
 have h0:=h
 rcases h.2 with ⟨hv,h2⟩|⟨g,cap,cur,hv,hb,hg,_,_,_,_⟩
 ·subst h2
  obtain rfl:xs=[]:=List.eq_nil_of_length_eq_zero hn
  exact .inl rfl
 ·injection hv with h1 _ h3
  subst h1 h3
  exact .inr ⟨g,rfl,⟨hb,(Array.getElem?_eq_some_iff.1 hg).1⟩,fun k hk=>h0.cellAt k (by rw[cu_len]at hk;omega)⟩
theorem FRow.keep{w w':World}{m:Nat}{A:Option Addr}{xs:List Value}(h:FRow w m A xs)(hs:w.heap.size<=w'.heap.size)(hk:∀ b,m<=b->b<w.heap.size->w'.heap[b]? = w.heap[b]?):FRow w' m A xs:=by
 rcases h with h|⟨b,hA,⟨h1,h2⟩,hc⟩
 ·exact .inl h
 ·refine .inr ⟨b,hA,⟨h1,by omega⟩,fun k hkl => ?_⟩
  have e:=hc k hkl
  unfold World.cell? at e ⊢
  simp only at e ⊢
  rw[hk b h1 h2]
  exact e
theorem FRow.go{w w':World}{m:Nat}{A:Option Addr}{xs:List Value}(h:FRow w m A xs)(hB:Below w.heap.size w w'):FRow w' m A xs:=h.keep hB.size fun b _ hb=>hB.block b hb
def ReadR (o:Option (List Nat)) (w:World) (e:Ending) (w':World):Prop :=
 (match o with|some y => ∃ A c,e = .returned (.tuple #[.slice A y.length c,.bool true])/\FRow w' w.heap.size A (cu y)|none=>e = .returned (.tuple #[.slice none 0 0,.bool false]))/\Below w.heap.size w w'
theorem readR_none{o:Option (List Nat)}{w w':World}(h:o=none)(hB:Below w.heap.size w w'):ReadR o w (.returned (.tuple #[.slice none 0 0,.bool false])) w':=by subst h;exact⟨rfl,hB⟩
theorem readR_some{o:Option (List Nat)}{y:List Nat}{A:Option Addr}{n c:Nat}{w w':World}(h:o=some y)(hn:y.length=n)(hr:FRow w' w.heap.size A (cu y))(hB:Below w.heap.size w w'):ReadR o w (.returned (.tuple #[.slice A n c,.bool true])) w':=by subst h;subst hn;exact⟨⟨A,c,rfl,hr⟩,hB⟩
def mv (more:Bool) (n:Nat):Nat:=if more=true then n+1 else 0
theorem read_any(s:ByteArray)(q:Bool)(hs:s.size<=1000000)(w:World)(hE:Env w):Calls Tryz.prog 143 #[.string s,.bool q] w (ReadR (rdt q (dl s)) w):=by
 have HE:=Lib.hid (fun w' (hB:Below w.heap.size w w')=>hE.go hB)
 obtain⟨m,hm⟩:∃ m,(!s.toList.isEmpty)=m:=⟨_,rfl⟩
 have hne:s.toList.isEmpty = !m:=by rw[<-hm];simp
 have HST:Hid ((m=true->rdt q (dl s)=gos q [] (dl s))/\(m=false->rdt q (dl s)=some [])):=Lib.hid (by
  have e:s.toList=dl s:=ByteArray.toList_eq s
  rw[e]at hm
  subst hm
  refine⟨fun h=>rdt_gos fun h0 => ?_,fun h => ?_⟩
  ·rw[h0]at h;cases h
  ·have:dl s=[]:=by simpa using h
   rw[this]
   rfl)
 obtain⟨T,hT⟩:∃ T,rdt q (dl s)=T:=⟨_,rfl⟩
 rw[hT]at HST ⊢
 have HSZ:=Lib.hid hs
 clear hE hm hT hs
 go_enter Tryz.func143,Tryz.ntmps143
 go_wp2_with fail
 go_loopg [0,6,7] (s.size+1) (fun g s0 s6 s7 wr => ∃ (rest:ByteArray) (xs:List Nat) (A:Option Addr) (c n:Nat) (more:Bool),s0 = .string rest/\s6 = .slice A n c/\s7 = .bool more/\mv more rest.size<=g/\Hid (xs.length=n)/\n<=8/\Hid (rest.size<=1000000)/\Hid ((more=true->T=gos q xs (dl rest))/\(more=false->T=some xs))/\Hid (wr.ownsRow w.heap.size 25 1 (.slice A n c) n (cu xs))/\Hid (Below w.heap.size w wr))
 case atStart=>exact⟨s,[],none,0,0,m,rfl,rfl,rfl,by unfold mv;split<;>omega,Lib.hid rfl,Nat.zero_le _,HSZ,HST,Lib.hid (World.ownsRow_nil _ _ _ _),Lib.hid (Below.refl _ _)⟩
 case round =>
  clear hne HST
  obtain⟨rest,xs,A,c,n,more,rfl,rfl,rfl,hg,HN,hn8,HRS,HT,HO,HB⟩:=hrel
  cases more with
  | false =>
   have HR:=Lib.hid (FRow.of_own HO.out HN.out)
   have HTF:=Lib.hid (HT.out.2 rfl)
   clear HT
   go_wp2_with fail
   go_ret2
   exact readR_some HTF.out HN.out HR.out HB.out
  | true =>
   have HG:Hid (rest.size+1<=gk):=Lib.hid hg
   have HC:=Lib.hid (Cut_any rest ⟨#[58]⟩ (by simp[dl]) HRS.out wr (HE.out _ HB.out))
   have HTT:=Lib.hid (HT.out.1 rfl)
   clear hg HT
   cases hc:cutg (dl ⟨#[58]⟩) (dl rest) with
   | none =>
    rw[hc]at HC
    have hl:=gos_last (emb:=q) (xs:=xs) (r:=dl rest) hc
    rw[<-HTT.out]at hl
    have HP:=Lib.hid (fun W (hB:Below wr.heap.size wr W)=>pieces_any rest q HRS.out W (HE.out _ (HB.out.trans (hB.mono HB.out.size))))
    have HY:=Lib.hid (fun y h=>rd_one_len (emb:=q) (p:=dl rest) (y:=y) h)
    obtain⟨o,ho⟩:∃ o,rd q [dl rest]=o:=⟨_,rfl⟩
    rw[ho]at HP HY hl
    have HL:=Lib.hid hl
    clear hc ho hl HTT
    cases q
    all_goals
     go_upto_region 6 with(first|(go_at_call 142;refine HC.out.mono ?_;rintro e w1 ⟨rfl,hB1⟩)|fail)
     have HP1:=Lib.hid (HP.out w1 hB1)
     have HO1:=Lib.hid (own_below HO.out hB1)
     have HB1:=Lib.hid (HB.out.trans (hB1.mono HB.out.size))
     clear hB1 HC HP
     cases o with
     | none =>
      go_wp2_with fail
      refine HP1.out.mono ?_
      rintro e w2 ⟨rfl,hB2⟩
      go_wp2_with fail
      go_ret2
      exact readR_none HL.out (upB HB1.out hB2)
     | some y =>
      have HYL:=Lib.hid (HY.out y rfl)
      go_wp2_with fail
      refine HP1.out.mono ?_
      rintro e w2 ⟨⟨A2,c2,rfl,hr2⟩,hB2⟩
      obtain⟨ny,hny⟩:∃ ny,y.length=ny:=⟨_,rfl⟩
      have hy1:1<=ny:=by rw[<-hny];exact HYL.out.1
      have hy2:ny<=2:=by rw[<-hny];exact HYL.out.2
      rw[hny]
      have HNY:=Lib.hid hny
      have HO2:=Lib.hid (own_below HO1.out hB2)
      have HB2:=Lib.hid (upB HB1.out hB2)
      have HR2:=Lib.hid hr2
      have hy0:((ny:Int)==0)=false:=by rw[beq_eq_false_iff_ne];omega
      clear hny hB2 hr2
      by_cases h8:n+ny<=8
      ·have h8z:decide ((8:Int)<(n:Int)+(ny:Int))=false:=decide_eq_false (by omega)
       have HT2:Hid (T=some (xs++y)):=Lib.hid (by rw[HL.out];first|rw[HN.out,HNY.out,if_pos h8]|(simp only;rw[HN.out,HNY.out,if_pos h8]))
       obtain⟨m,hm⟩:∃ m,n+ny=m:=⟨_,rfl⟩
       have HM:=Lib.hid hm
       have hm8:m<=8:=by omega
       clear hm h8 HL
       go_wp2_with(first|(at_builtin;refine wpList_appU w.heap.size w2 rfl _ _ rfl (.slice A n c) n m xs y rfl HO2.out HB2.out.size A2 ny c2 rfl HNY.out HR2.out HM.out (by omega) ?_;intro A3 c3 w3 hO3 hB3)|fail)
       go_roundg 0
       case measure=>have:=HG.out;omega
       case rel=>exact⟨_,xs++y,A3,c3,m,false,rfl,rfl,rfl,Nat.le_refl _,Lib.hid (by rw[List.length_append,HN.out,HNY.out,HM.out]),hm8,Lib.hid (by decide),Lib.hid ⟨(fun h=>by cases h),fun _=>HT2.out⟩,Lib.hid hO3,Lib.hid (HB2.out.trans hB3)⟩
      ·have h8z:decide ((8:Int)<(n:Int)+(ny:Int))=true:=decide_eq_true (by omega)
       have HT2:Hid (T=none):=Lib.hid (by rw[HL.out];first|rw[HN.out,HNY.out,if_neg h8]|(simp only;rw[HN.out,HNY.out,if_neg h8]))
       clear h8 HL
       go_wp2_with fail
       go_ret2
       exact readR_none HT2.out HB2.out
   | some p =>
    rw[hc]at HC
    have hl:=gos_more (emb:=q) (xs:=xs) hc
    rw[<-HTT.out]at hl
    have HLE:Hid (p.1.length+p.2.length+1<=rest.size):=Lib.hid (by
     have:=congrArg List.length (cut1_some hc).1
     rw[List.length_append,List.length_cons,len_dl]at this
     omega)
    have HP:=Lib.hid (fun W (hB:Below wr.heap.size wr W)=>pieces_any (bs p.1) false (by rw[bs_size];have:=HLE.out;have:=HRS.out;omega) W (HE.out _ (HB.out.trans (hB.mono HB.out.size))))
    rw[show dl (bs p.1)=p.1 from bs_data _]at HP
    have HY:=Lib.hid (fun y h=>rd_one_len (emb:=false) (p:=p.1) (y:=y) h)
    obtain⟨o,ho⟩:∃ o,rd false [p.1]=o:=⟨_,rfl⟩
    rw[ho]at HP HY hl
    obtain⟨q0,hq0⟩:∃ q0,q0=q:=⟨_,rfl⟩
    rw[<-hq0]at hl
    have HL:=Lib.hid hl
    have HQ0:=Lib.hid hq0
    clear hc ho hl HTT hq0
    cases q
    all_goals
     go_upto_region 6 with(first|(go_at_call 142;refine HC.out.mono ?_;rintro e w1 ⟨rfl,hB1⟩)|fail)
     have HP1:=Lib.hid (HP.out w1 hB1)
     have HO1:=Lib.hid (own_below HO.out hB1)
     have HB1:=Lib.hid (HB.out.trans (hB1.mono HB.out.size))
     clear hB1 HC HP
     cases o with
     | none =>
      go_wp2_with fail
      refine HP1.out.mono ?_
      rintro e w2 ⟨rfl,hB2⟩
      go_wp2_with fail
      go_ret2
      exact readR_none HL.out (upB HB1.out hB2)
     | some y =>
      have HYL:=Lib.hid (HY.out y rfl)
      go_wp2_with fail
      refine HP1.out.mono ?_
      rintro e w2 ⟨⟨A2,c2,rfl,hr2⟩,hB2⟩
      obtain⟨ny,hny⟩:∃ ny,y.length=ny:=⟨_,rfl⟩
      have hy1:1<=ny:=by rw[<-hny];exact HYL.out.1
      have hy2:ny<=2:=by rw[<-hny];exact HYL.out.2
      rw[hny]
      have HNY:=Lib.hid hny
      have HO2:=Lib.hid (own_below HO1.out hB2)
      have HB2:=Lib.hid (upB HB1.out hB2)
      have HR2:=Lib.hid hr2
      have hy0:((ny:Int)==0)=false:=by rw[beq_eq_false_iff_ne];omega
      clear hny hB2 hr2
      by_cases h8:n+ny<=8
      ·have h8z:decide ((8:Int)<(n:Int)+(ny:Int))=false:=decide_eq_false (by omega)
       have HT2:Hid (T=gos q0 (xs++y) p.2):=Lib.hid (by rw[HL.out];first|rw[HN.out,HNY.out,if_pos h8]|(simp only;rw[HN.out,HNY.out,if_pos h8]))
       obtain⟨m,hm⟩:∃ m,n+ny=m:=⟨_,rfl⟩
       have HM:=Lib.hid hm
       have hm8:m<=8:=by omega
       clear hm h8 HL
       go_wp2_with(first|(at_builtin;refine wpList_appU w.heap.size w2 rfl _ _ rfl (.slice A n c) n m xs y rfl HO2.out HB2.out.size A2 ny c2 rfl HNY.out HR2.out HM.out (by omega) ?_;intro A3 c3 w3 hO3 hB3)|fail)
       go_roundg (p.2.length+1)
       case measure=>have:=HG.out;have:=HLE.out;omega
       case rel=>exact⟨bs p.2,xs++y,A3,c3,m,true,rfl,rfl,rfl,(by unfold mv;rw[if_pos rfl,bs_size];exact Nat.le_refl _),Lib.hid (by rw[List.length_append,HN.out,HNY.out,HM.out]),hm8,Lib.hid (by rw[bs_size];have:=HLE.out;have:=HRS.out;omega),Lib.hid ⟨fun _=>by rw[show dl (bs p.2)=p.2 from bs_data _,<-HQ0.out];exact HT2.out,(fun h=>by cases h)⟩,Lib.hid hO3,Lib.hid (HB2.out.trans hB3)⟩
      ·have h8z:decide ((8:Int)<(n:Int)+(ny:Int))=true:=decide_eq_true (by omega)
       have HT2:Hid (T=none):=Lib.hid (by rw[HL.out];first|rw[HN.out,HNY.out,if_neg h8]|(simp only;rw[HN.out,HNY.out,if_neg h8]))
       clear h8 HL
       go_wp2_with fail
       go_ret2
       exact readR_none HT2.out HB2.out
def fin (short:Bool) (x y:List Nat):Option (List Nat):=if x.length+y.length<=8/\(short=true↔x.length+y.length≠8) then some (x++List.replicate (8-x.length-y.length) 0++y) else none
def prsP (short:Bool) (a b:List UInt8):Option (List Nat):=(rdt (!short) a).bind fun x=>(rdt true b).bind fun y=>fin short x y
theorem prs_whole'(l:List UInt8)(h:cutg [58,58] l=none):prs l=prsP false l []:=by
 unfold prs prsP
 rw[h,rdt_nil]
 simp only[Bool.not_false,Option.bind_some]
 cases hr:rdt true l with
 | none=>rfl
 | some x =>
  simp only[Option.bind_some]
  unfold fin
  simp only[List.length_nil,Nat.add_zero]
  by_cases h8:x.length=8
  ·rw[if_pos h8,if_pos ⟨by omega,by simp[h8]⟩]
   simp[h8]
  ·rw[if_neg h8,if_neg]
   rintro ⟨_,h⟩
   simp at h
   exact h8 h
theorem prs_short'(l:List UInt8)(p:List UInt8 × List UInt8)(h:cutg [58,58] l=some p):prs l=prsP true p.1 p.2:=by
 unfold prs prsP
 rw[h]
 simp only[Bool.not_true]
 cases h1:rdt false p.1 with
 | none=>rfl
 | some x =>
  cases h2:rdt true p.2 with
  | none=>rfl
  | some y =>
   simp only[Option.bind_some]
   unfold fin
   by_cases h8:x.length+y.length<8
   ·rw[if_pos h8,if_pos ⟨by omega,by simp;omega⟩]
   ·rw[if_neg h8,if_neg]
    rintro ⟨h3,h4⟩
    have:=h4.1 rfl
    omega
theorem fin_len{short:Bool}{x y z:List Nat}(h:fin short x y=some z):z.length=8:=by
 unfold fin at h
 split at h
 ·obtain rfl:=Option.some.inj h
  simp
  omega
 ·cases h
theorem fin_yes{short:Bool}{x y:List Nat}{n1 n2:Nat}(h1:x.length=n1)(h2:y.length=n2)(h:n1+n2<=8)(hs:short=true↔n1+n2≠8):fin short x y=some (x++List.replicate (8-n1-n2) 0++y):=by
 subst h1 h2
 unfold fin
 rw[if_pos ⟨h,hs⟩]
theorem fin_no{short:Bool}{x y:List Nat}{n1 n2:Nat}(h1:x.length=n1)(h2:y.length=n2)(h:¬ (n1+n2<=8/\(short=true↔n1+n2≠8))):fin short x y=none:=by
 subst h1 h2
 unfold fin
 rw[if_neg h]
def ParR (o:Option (List Nat)) (w:World) (e:Ending) (w':World):Prop :=
 (match o with|some y=>e = .returned (.tuple #[av y,.int .i64 0])|none=>e = .returned (.tuple #[av z8,.int .i64 31]))/\Below w.heap.size w w'
theorem results_two{P:Program}{fn:Func}{k u:Tmp}{t:TypeId}{tmps:Array Value}{w:World}{a:Addr}{v x:Value}(h:fn.results=#[.cell k t,.tmp u])(hp:tmps.getD k undef = .pointer (some a))(hl:(loadVar t a).run P w = .ok v w)(hu:tmps.getD u undef=x):(results fn tmps).run P w = .ok (.tuple #[v,x]) w:=by
 rw[Array.getD_eq_getD_getElem?]at hp hu
 simp[results,h]
 rw[hp]
 simp[asAddr,hl,hu]
theorem store8{ops:Array Oper}{rest:List Oper}{op:Oper}{a:Act}{w:World}{Q:Exit->Act->World->Prop}(hgd:op.guard=none)(x y:Operand)(ho:op.op = .store 26 x y)
  (b:Nat) (z v:List Nat) (hx:a.eval x = .pointer (some ⟨b,0,none⟩)) (hy:a.eval y = .agg (cu v).toArray) (hz:Hx w b z) (hz8:z.length=8) (hv8:v.length=8)
  (h:∀ w',(loadVar 26 ⟨b,0,none⟩).run Tryz.prog w' = .ok (av v) w'->Below b w w'->wpList Tryz.prog ops Q rest (a.put op.dst undef) w'):wpList Tryz.prog ops Q (op::rest) a w:=by
 refine wpList_store_mid hgd 26 x y ho b 0 (cu v).toArray hx hy (hz.there (by omega)) (info_ofA hv8) (oneA v) ?_
 exact h _ (load_set hz hz8 hv8) (below_setCells (Nat.le_refl _) _ _ _ (Below.refl _ _))
theorem setRow_cells{w:World}{b:Nat}{z:List Nat}(v:List Nat)(hz:Hx w b z)(hz8:z.length=8)(hv8:v.length=8):Hx (w.setCells b 0 (cu v)) b v:=by
 have key:∀ (vs:List Value) (pre:List Value) (w:World) (rest:List Value),w.heap[b]? = some (.cells (pre++rest).toArray 26 (0,0))->rest.length=vs.length->(w.setCells b pre.length vs).heap[b]? = some (.cells (pre++vs).toArray 26 (0,0)):=by
  intro vs
  induction vs with
  | nil =>
   intro pre w rest h hl
   obtain rfl:rest=[]:=List.eq_nil_of_length_eq_zero hl
   exact h
  | cons u vs ih =>
   intro pre w rest h hl
   obtain⟨r,rest,rfl⟩:∃ r t,rest=r::t:=by
    cases rest with
    | nil=>simp at hl
    | cons r t=>exact⟨r,t,rfl⟩
   rw[World.setCells]
   have h2:(w.setCell ⟨b,pre.length,none⟩ u).heap[b]? = some (.cells ((pre++[u])++rest).toArray 26 (0,0)):=by
    simp only[World.setCell,Array.getElem?_modify,if_true,h,Option.map_some]
    congr 2
    simp
   have:=ih (pre++[u]) _ rest h2 (by simpa using hl)
   rw[List.length_append,List.length_singleton,List.append_assoc]at this
   exact this
 exact key (cu v) [] w (cu z) hz (by rw[cu_len,cu_len];omega)
theorem store8x{ops:Array Oper}{rest:List Oper}{op:Oper}{a:Act}{w:World}{Q:Exit->Act->World->Prop}(hgd:op.guard=none)(x y:Operand)(ho:op.op = .store 26 x y)
  (b:Nat) (z v:List Nat) (hx:a.eval x = .pointer (some ⟨b,0,none⟩)) (hy:a.eval y = .agg (cu v).toArray) (hz:Hx w b z) (hz8:z.length=8) (hv8:v.length=8)
  (h:∀ w',Hx w' b v->Below b w w'->wpList Tryz.prog ops Q rest (a.put op.dst undef) w'):wpList Tryz.prog ops Q (op::rest) a w:=by
 refine wpList_store_mid hgd 26 x y ho b 0 (cu v).toArray hx hy (hz.there (by omega)) (info_ofA hv8) (oneA v) ?_
 exact h _ (setRow_cells v hz hz8 hv8) (below_setCells (Nat.le_refl _) _ _ _ (Below.refl _ _))
theorem parR_none{o:Option (List Nat)}{w w':World}(h:o=none)(hB:Below w.heap.size w w'):ParR o w (.returned (.tuple #[av z8,.int .i64 31])) w':=by subst h;exact⟨rfl,hB⟩
theorem parR_some{o:Option (List Nat)}{y:List Nat}{w w':World}(h:o=some y)(hB:Below w.heap.size w w'):ParR o w (.returned (.tuple #[av y,.int .i64 0])) w':=by subst h;exact⟨rfl,hB⟩
theorem wpList_copy8{w:World}{ops:Array Oper}{rest:List Oper}{o:Oper}{a:Act}{Q:Exit->Act->World->Prop}(hgd:o.guard=none)(d s:Operand)
  (ho:o.op = .call { callee:=.builtin .copy,args:=#[d,s],argTypes:=#[182,182] })
  (dp sp:Option Addr) (dLen dCap sLen sCap:Nat) (hd:a.eval d = .slice dp dLen dCap) (hs:a.eval s = .slice sp sLen sCap)
  (g k:Nat) (cur:List Value) (hg:w.heap[g]? = some (.cells cur.toArray 26 (0,0))) (cs:List Value) (hn:cs.length=Nat.min sLen dLen) (m:Nat)
  (hdp:0<cs.length->dp=some ⟨g,k,none⟩) (hsp:FRow w m sp cs) (hfit:k+cs.length<=cur.length) (h1:∀ v∈cs,v.oneCell'=true)
  (h:∀ w',w'.heap[g]? = some (.cells (splice cur k cs).toArray 26 (0,0))->w'.heap.size=w.heap.size->(∀ b,b≠g->w'.heap[b]? = w.heap[b]?)->Below g w w'->wpList Tryz.prog ops Q rest (a.put o.dst (goInt cs.length)) w') :
  wpList Tryz.prog ops Q (o::rest) a w:=by
 by_cases h0:cs.length=0
 ·obtain rfl:cs=[]:=List.eq_nil_of_length_eq_zero h0
  refine wpList_copy_nothing hgd d s 182 182 ho 25 Tryz.underlying182 info16 dp sp dLen dCap sLen sCap hd hs (by simpa using hn.symm) ?_
  exact h w (by simpa[splice] using hg) rfl (fun _ _=>rfl) (Below.refl _ _)
 ·obtain rfl:=hdp (by omega)
  rcases hsp with rfl|⟨b,rfl,⟨_,_⟩,hc⟩
  ·exact absurd rfl h0
  ·refine wpList_copy_own hgd d s 182 182 ho 25 Tryz.underlying182 info16 g k dLen dCap ⟨b,0,none⟩ sLen sCap hd hs cur.toArray 26 hg cs hn (fun j v hj => ?_) (by simpa using hfit) h1 ?_
   ·rw[Lib.add_plain,Nat.zero_add,hc j (List.getElem?_eq_some_iff.1 hj).1]
    exact hj
   ·exact h _ (by simpa[splice] using setRow_heap w g _ _ 26 _ hg) (by simp[World.setRow]) (fun b hb=>setRow_other w g b _ hb) (below_setRow (Below.refl _ _) (Nat.le_refl _) _)
theorem fin_splice{x y:List Nat}{n1 n2 k2:Nat}(h1:x.length=n1)(h2:y.length=n2)(hk:n2+k2=8)(h8:n1<=k2):splice (splice (cu z8) 0 (cu x)) k2 (cu y)=cu (x++List.replicate (8-n1-n2) 0++y):=by
 have hz:cu z8=List.replicate 8 (.int .u16 0):=rfl
 have hr:∀ m,cu (List.replicate m 0)=List.replicate m (.int .u16 0):=fun m=>by simp[cu]
 have hx:(cu x).length=n1:=by rw[cu_len,h1]
 have hy:(cu y).length=n2:=by rw[cu_len,h2]
 have e1:splice (cu z8) 0 (cu x)=cu x++List.replicate (8-n1) (.int .u16 0):=by
  unfold splice
  rw[hx,hz,List.drop_replicate]
  simp
 rw[e1]
 unfold splice
 rw[hy,cu_app,cu_app,hr,List.take_append,hx,List.take_of_length_le (by omega),List.take_replicate,List.drop_of_length_le (by rw[List.length_append,hx,List.length_replicate];omega),List.append_nil,show min (k2-n1) (8-n1)=8-n1-n2 by omega]
theorem Parse_any(s:ByteArray)(hs:s.size<=1000000)(w:World)(hE:Env w):Calls Tryz.prog 85 #[.string s] w (ParR (prs (dl s)) w):=by
 have hx0:=(Hx.new w z8).go (upA _ (.cells (cu z8).toArray 26))
 have hx1:=Hx.new (w.alloc (.cells (cu z8).toArray 26)) z8
 rw[World.size_alloc]at hx1
 have hB0:Below w.heap.size w ((w.alloc (.cells (cu z8).toArray 26)).alloc (.cells (cu z8).toArray 26)):=(upA w _).alloc (by simp) _
 have hsz0:((w.alloc (.cells (cu z8).toArray 26)).alloc (.cells (cu z8).toArray 26)).heap.size=w.heap.size+2:=by simp
 have ez:(cu z8).toArray=#[.int .u16 0,.int .u16 0,.int .u16 0,.int .u16 0,.int .u16 0,.int .u16 0,.int .u16 0,.int .u16 0]:=rfl
 rw[ez]at hx0 hx1 hB0 hsz0
 obtain⟨w1,hw1⟩:∃ w1,(w.alloc (.cells #[.int .u16 0,.int .u16 0,.int .u16 0,.int .u16 0,.int .u16 0,.int .u16 0,.int .u16 0,.int .u16 0] 26)).alloc (.cells #[.int .u16 0,.int .u16 0,.int .u16 0,.int .u16 0,.int .u16 0,.int .u16 0,.int .u16 0,.int .u16 0] 26)=w1:=⟨_,rfl⟩
 rw[hw1]at hx0 hx1 hB0 hsz0
 have HX0:=Lib.hid hx0
 have HX1:=Lib.hid hx1
 have HB0:=Lib.hid hB0
 have HSZ:=Lib.hid hsz0
 have HE:=Lib.hid (fun w' (hB:Below w1.heap.size w1 w')=>(hE.go hB0).go hB)
 have HC:=Lib.hid (Cut_any s ⟨#[58,58]⟩ (by simp[dl]) hs w1 (hE.go hB0))
 obtain⟨T,hT⟩:∃ T,prs (dl s)=T:=⟨_,rfl⟩
 rw[hT]
 have HS:Hid (∃ (front back:ByteArray) (short:Bool),(front.size<=1000000/\back.size<=1000000)/\T=prsP short (dl front) (dl back)/\∀ e w',CutR s (cutg (dl ⟨#[58,58]⟩) (dl s)) w1 e w'->e = .returned (.tuple #[.string front,.string back,.bool short])/\Below w1.heap.size w1 w'):=Lib.hid (by
  subst hT
  cases hc:cutg (dl ⟨#[58,58]⟩) (dl s) with
  | none=>exact⟨s,⟨#[]⟩,false,⟨hs,by decide⟩,prs_whole' _ hc,fun e w' h=>h⟩
  | some p =>
   have:=congrArg List.length (cutg_app hc)
   simp only[List.length_append]at this
   rw[len_dl]at this
   refine⟨bs p.1,bs p.2,true,⟨by rw[bs_size];omega,by rw[bs_size];omega⟩, ?_,fun e w' h=>h⟩
   rw[show dl (bs p.1)=p.1 from bs_data _,show dl (bs p.2)=p.2 from bs_data _]
   exact prs_short' _ p hc)
 clear hx0 hx1 hB0 hsz0 hE hs hT ez
 go_enter Tryz.func85,Tryz.ntmps85
 go_upto_region 2 with fail
 clear hw1
 go_wp2_with fail
 refine HC.out.mono ?_
 intro e w2 hcut
 obtain⟨front,back,short,⟨hf,hb⟩,hT,hcr⟩:=HS.out
 obtain⟨rfl,hB2⟩:=hcr _ _ hcut
 clear HS HC hcut hcr
 have HR2:=Lib.hid (fun W (hB:Below w1.heap.size w1 W)=>read_any back true hb W (HE.out _ hB))
 have HR1:=Lib.hid (fun W (hB:Below w1.heap.size w1 W)=>read_any front (!short) hf W (HE.out _ hB))
 unfold prsP at hT
 have HL1:Hid (∀ x,rdt (!short) (dl front)=some x->x.length<=8):=Lib.hid (fun x h=>(rdt_some h).2)
 have HL2:Hid (∀ x,rdt true (dl back)=some x->x.length<=8):=Lib.hid (fun x h=>(rdt_some h).2)
 obtain⟨o1,ho1⟩:∃ o,rdt (!short) (dl front)=o:=⟨_,rfl⟩
 obtain⟨o2,ho2⟩:∃ o,rdt true (dl back)=o:=⟨_,rfl⟩
 rw[ho1]at HR1 HL1 hT
 rw[ho2]at HR2 HL2 hT
 have HT:=Lib.hid hT
 have HB2:=Lib.hid hB2
 clear ho1 ho2 hf hb hT hB2
 cases short with
 | false =>
  simp only[Bool.not_false]at HR1
  go_wp2_with fail
  refine (HR1.out _ HB2.out).mono ?_
  rintro e w3 ⟨h1,hB3⟩
  have HB3:=Lib.hid (HB2.out.trans (hB3.mono HB2.out.size))
  cases o1 with
  | none =>
   obtain rfl:=h1
   have HTN:Hid (T=none):=Lib.hid HT.out
   clear hB3
   go_wp2_with fail
   refine (HR2.out _ HB3.out).mono ?_
   rintro e w4 ⟨h2,hB4⟩
   have HB4:=Lib.hid (HB3.out.trans (hB4.mono HB3.out.size))
   clear hB4
   cases o2 with
   | none =>
    obtain rfl:=h2
    have hx0':Hx w4 w.heap.size z8:=HX0.out.gob (by have:=HSZ.out;omega) HB4.out
    have HBF:=Lib.hid (HB0.out.trans ((HB4.out:Below w1.heap.size w1 w4).mono HB0.out.size))
    go_wp2_with(first|(refine store8 rfl _ _ rfl _ z8 z8 rfl rfl hx0' rfl rfl ?_;intro wX hld hbX)|fail)
    refine bodyPost_ret (v:=.tuple #[av z8,.int .i64 31]) ?_ rfl ?_
    case refine_1=>exact results_two (u:=3) Tryz.results85 rfl hld rfl
    exact parR_none HTN.out (HBF.out.trans hbX)
   | some y =>
    obtain⟨A2,c2,rfl,hr2⟩:=h2
    obtain⟨n2,hn2⟩:∃ n,y.length=n:=⟨_,rfl⟩
    rw[hn2]
    clear hn2 hr2
    have hx0':Hx w4 w.heap.size z8:=HX0.out.gob (by have:=HSZ.out;omega) HB4.out
    have HBF:=Lib.hid (HB0.out.trans ((HB4.out:Below w1.heap.size w1 w4).mono HB0.out.size))
    go_wp2_with(first|(refine store8 rfl _ _ rfl _ z8 z8 rfl rfl hx0' rfl rfl ?_;intro wX hld hbX)|fail)
    refine bodyPost_ret (v:=.tuple #[av z8,.int .i64 31]) ?_ rfl ?_
    case refine_1=>exact results_two (u:=3) Tryz.results85 rfl hld rfl
    exact parR_none HTN.out (HBF.out.trans hbX)
  | some x =>
   obtain⟨A1,c1,rfl,hr1⟩:=h1
   obtain⟨n1,hn1⟩:∃ n,x.length=n:=⟨_,rfl⟩
   rw[hn1]
   have hn18:n1<=8:=by rw[<-hn1];exact HL1.out x rfl
   have HN1:=Lib.hid hn1
   have HF1:=Lib.hid hr1
   have HS2:=Lib.hid HB2.out.size
   clear hn1 hr1 hB3 HL1
   go_wp2_with fail
   refine (HR2.out _ HB3.out).mono ?_
   rintro e w4 ⟨h2,hB4⟩
   have HF1':=Lib.hid (HF1.out.go hB4)
   have HB4:=Lib.hid (HB3.out.trans (hB4.mono HB3.out.size))
   have HS3:=Lib.hid HB3.out.size
   clear hB4
   cases o2 with
   | none =>
    obtain rfl:=h2
    have HTN:Hid (T=none):=Lib.hid HT.out
    have hx0':Hx w4 w.heap.size z8:=HX0.out.gob (by have:=HSZ.out;omega) HB4.out
    have HBF:=Lib.hid (HB0.out.trans ((HB4.out:Below w1.heap.size w1 w4).mono HB0.out.size))
    go_wp2_with(first|(refine store8 rfl _ _ rfl _ z8 z8 rfl rfl hx0' rfl rfl ?_;intro wX hld hbX)|fail)
    refine bodyPost_ret (v:=.tuple #[av z8,.int .i64 31]) ?_ rfl ?_
    case refine_1=>exact results_two (u:=3) Tryz.results85 rfl hld rfl
    exact parR_none HTN.out (HBF.out.trans hbX)
   | some y =>
    obtain⟨A2,c2,rfl,hr2⟩:=h2
    obtain⟨n2,hn2⟩:∃ n,y.length=n:=⟨_,rfl⟩
    rw[hn2]
    have hn28:n2<=8:=by rw[<-hn2];exact HL2.out y rfl
    have HN2:=Lib.hid hn2
    have HF2:=Lib.hid hr2
    have HTF:Hid (T=fin _ x y):=Lib.hid HT.out
    clear hn2 hr2 HL2 HT
    by_cases h9:8<n1+n2
    ·have h9z:decide ((8:Int)<(n1:Int)+(n2:Int))=true:=decide_eq_true (by omega)
     have HTN:Hid (T=none):=Lib.hid (HTF.out.trans (fin_no HN1.out HN2.out (by omega)))
     clear h9
     have hx0':Hx w4 w.heap.size z8:=HX0.out.gob (by have:=HSZ.out;omega) HB4.out
     have HBF:=Lib.hid (HB0.out.trans ((HB4.out:Below w1.heap.size w1 w4).mono HB0.out.size))
     go_wp2_with(first|(refine store8 rfl _ _ rfl _ z8 z8 rfl rfl hx0' rfl rfl ?_;intro wX hld hbX)|fail)
     refine bodyPost_ret (v:=.tuple #[av z8,.int .i64 31]) ?_ rfl ?_
     case refine_1=>exact results_two (u:=3) Tryz.results85 rfl hld rfl
     exact parR_none HTN.out (HBF.out.trans hbX)
    ·have h9z:decide ((8:Int)<(n1:Int)+(n2:Int))=false:=decide_eq_false (by omega)
     by_cases h8:n1+n2=8
     ·have h8z:((n1:Int)+(n2:Int)==8)=true:=by rw[beq_iff_eq];omega
      have HTS:=Lib.hid (HTF.out.trans (fin_yes HN1.out HN2.out (by omega) (by simp;omega)))
      obtain⟨k2,hk2⟩:∃ k2,n2+k2=8:=⟨8-n2,by omega⟩
      have hk2i:(8:Int)-(n2:Int)=(k2:Int):=by omega
      have HSP:=Lib.hid (fin_splice HN1.out HN2.out hk2 (by omega))
      have HFL:=Lib.hid (fin_len (HTF.out.symm.trans HTS.out))
      obtain⟨R,hR⟩:∃ R,x++List.replicate (8-n1-n2) 0++y=R:=⟨_,rfl⟩
      rw[hR]at HTS HSP HFL
      have hx0':Hx w4 w.heap.size z8:=HX0.out.gob (by have:=HSZ.out;omega) HB4.out
      have hx1':Hx w4 (w.heap.size+1) z8:=HX1.out.gob (by have:=HSZ.out;omega) HB4.out
      have HBF:=Lib.hid (HB0.out.trans ((HB4.out:Below w1.heap.size w1 w4).mono HB0.out.size))
      have hsl0:=fun W=>sl_all (w.heap.size+1) W
      have hsl2:=fun W=>sl_l (w.heap.size+1) k2 (by omega) W
      rw[show 8-k2=n2 by omega]at hsl2
      have HOF:Hid (0<n2->off k2=k2):=Lib.hid (fun h=>off_lt (by omega))
      obtain⟨o2,ho2⟩:∃ o,off k2=o:=⟨_,rfl⟩
      rw[ho2]at hsl2 HOF
      have HM1:Hid ((cu x).length=Nat.min n1 8):=Lib.hid (by rw[cu_len,HN1.out];simp only[Nat.min_def];split<;>omega)
      have HM2:Hid ((cu y).length=Nat.min n2 n2):=Lib.hid (by rw[cu_len,HN2.out];simp only[Nat.min_def];split<;>omega)
      have HFT1:Hid (0+(cu x).length<=(cu z8).length):=Lib.hid (by rw[cu_len,HN1.out];show 0+n1<=8;omega)
      have HFT2:Hid (k2+(cu y).length<=(splice (cu z8) 0 (cu x)).length):=Lib.hid (by rw[length_splice _ _ _ HFT1.out,cu_len,HN2.out];show k2+n2<=8;omega)
      have HDP:Hid (0<(cu y).length->(some (⟨w.heap.size+1,o2,none⟩:Addr))=some ⟨w.heap.size+1,k2,none⟩):=Lib.hid (fun h=>by rw[cu_len,HN2.out]at h;rw[HOF.out h])
      have HK2:=Lib.hid hk2
      clear hk2 hR ho2
      go_upto_region 8 with fail
      go_wp2_with(first
       | (refine wpList_copy8 rfl _ _ rfl (some ⟨w.heap.size+1,0,none⟩) A1 8 8 n1 c1 rfl rfl (w.heap.size+1) 0 (cu z8) hx1' (cu x) HM1.out w2.heap.size (fun _=>rfl) HF1'.out HFT1.out (one_cu x) ?_;intro w5 hg5 hs5 ho5 hb5;have HF2':=Lib.hid (HF2.out.keep (Nat.le_of_eq hs5.symm) (fun b h1 h2=>ho5 b (by have:=HSZ.out;have:=HS3.out;have:=HB3.out.size;omega))))
       | (refine wpList_copy8 rfl _ _ rfl (some ⟨w.heap.size+1,o2,none⟩) A2 n2 n2 n2 c2 rfl rfl (w.heap.size+1) k2 (splice (cu z8) 0 (cu x)) hg5 (cu y) HM2.out w3.heap.size HDP.out HF2'.out HFT2.out (one_cu y) ?_;intro w6 hg6 hs6 ho6 hb6;have HX6:Hid (Hx w6 (w.heap.size+1) R):=Lib.hid (by rw[HSP.out]at hg6;exact hg6);have hx6:=HX6.out;have hr6:Hx w6 w.heap.size z8:=(hx0'.gob (Nat.lt_succ_self _) hb5).gob (Nat.lt_succ_self _) hb6)
       | (refine load8 _ rfl _ rfl R hx6 HFL.out rfl ?_)
       | (refine store8 rfl _ _ rfl _ z8 R rfl rfl hr6 rfl HFL.out ?_;intro wX hld hbX)
       | fail)
      refine bodyPost_ret (v:=.tuple #[av R,.int .i64 0]) ?_ rfl ?_
      case refine_1=>exact results_two (u:=3) Tryz.results85 rfl hld rfl
      exact parR_some HTS.out (HBF.out.trans (((hb5.trans hb6).mono (Nat.le_succ _)).trans hbX))
     ·have h8z:((n1:Int)+(n2:Int)==8)=false:=by rw[beq_eq_false_iff_ne];omega
      have HTN:Hid (T=none):=Lib.hid (HTF.out.trans (fin_no HN1.out HN2.out (by simp;omega)))
      clear h9 h8
      have hx0':Hx w4 w.heap.size z8:=HX0.out.gob (by have:=HSZ.out;omega) HB4.out
      have HBF:=Lib.hid (HB0.out.trans ((HB4.out:Below w1.heap.size w1 w4).mono HB0.out.size))
      go_wp2_with(first|(refine store8 rfl _ _ rfl _ z8 z8 rfl rfl hx0' rfl rfl ?_;intro wX hld hbX)|fail)
      refine bodyPost_ret (v:=.tuple #[av z8,.int .i64 31]) ?_ rfl ?_
      case refine_1=>exact results_two (u:=3) Tryz.results85 rfl hld rfl
      exact parR_none HTN.out (HBF.out.trans hbX)
 | true =>
  simp only[Bool.not_true]at HR1
  go_wp2_with fail
  refine (HR1.out _ HB2.out).mono ?_
  rintro e w3 ⟨h1,hB3⟩
  have HB3:=Lib.hid (HB2.out.trans (hB3.mono HB2.out.size))
  cases o1 with
  | none =>
   obtain rfl:=h1
   have HTN:Hid (T=none):=Lib.hid HT.out
   clear hB3
   go_wp2_with fail
   refine (HR2.out _ HB3.out).mono ?_
   rintro e w4 ⟨h2,hB4⟩
   have HB4:=Lib.hid (HB3.out.trans (hB4.mono HB3.out.size))
   clear hB4
   cases o2 with
   | none =>
    obtain rfl:=h2
    have hx0':Hx w4 w.heap.size z8:=HX0.out.gob (by have:=HSZ.out;omega) HB4.out
    have HBF:=Lib.hid (HB0.out.trans ((HB4.out:Below w1.heap.size w1 w4).mono HB0.out.size))
    go_wp2_with(first|(refine store8 rfl _ _ rfl _ z8 z8 rfl rfl hx0' rfl rfl ?_;intro wX hld hbX)|fail)
    refine bodyPost_ret (v:=.tuple #[av z8,.int .i64 31]) ?_ rfl ?_
    case refine_1=>exact results_two (u:=3) Tryz.results85 rfl hld rfl
    exact parR_none HTN.out (HBF.out.trans hbX)
   | some y =>
    obtain⟨A2,c2,rfl,hr2⟩:=h2
    obtain⟨n2,hn2⟩:∃ n,y.length=n:=⟨_,rfl⟩
    rw[hn2]
    clear hn2 hr2
    have hx0':Hx w4 w.heap.size z8:=HX0.out.gob (by have:=HSZ.out;omega) HB4.out
    have HBF:=Lib.hid (HB0.out.trans ((HB4.out:Below w1.heap.size w1 w4).mono HB0.out.size))
    go_wp2_with(first|(refine store8 rfl _ _ rfl _ z8 z8 rfl rfl hx0' rfl rfl ?_;intro wX hld hbX)|fail)
    refine bodyPost_ret (v:=.tuple #[av z8,.int .i64 31]) ?_ rfl ?_
    case refine_1=>exact results_two (u:=3) Tryz.results85 rfl hld rfl
    exact parR_none HTN.out (HBF.out.trans hbX)
  | some x =>
   obtain⟨A1,c1,rfl,hr1⟩:=h1
   obtain⟨n1,hn1⟩:∃ n,x.length=n:=⟨_,rfl⟩
   rw[hn1]
   have hn18:n1<=8:=by rw[<-hn1];exact HL1.out x rfl
   have HN1:=Lib.hid hn1
   have HF1:=Lib.hid hr1
   have HS2:=Lib.hid HB2.out.size
   clear hn1 hr1 hB3 HL1
   go_wp2_with fail
   refine (HR2.out _ HB3.out).mono ?_
   rintro e w4 ⟨h2,hB4⟩
   have HF1':=Lib.hid (HF1.out.go hB4)
   have HB4:=Lib.hid (HB3.out.trans (hB4.mono HB3.out.size))
   have HS3:=Lib.hid HB3.out.size
   clear hB4
   cases o2 with
   | none =>
    obtain rfl:=h2
    have HTN:Hid (T=none):=Lib.hid HT.out
    have hx0':Hx w4 w.heap.size z8:=HX0.out.gob (by have:=HSZ.out;omega) HB4.out
    have HBF:=Lib.hid (HB0.out.trans ((HB4.out:Below w1.heap.size w1 w4).mono HB0.out.size))
    go_wp2_with(first|(refine store8 rfl _ _ rfl _ z8 z8 rfl rfl hx0' rfl rfl ?_;intro wX hld hbX)|fail)
    refine bodyPost_ret (v:=.tuple #[av z8,.int .i64 31]) ?_ rfl ?_
    case refine_1=>exact results_two (u:=3) Tryz.results85 rfl hld rfl
    exact parR_none HTN.out (HBF.out.trans hbX)
   | some y =>
    obtain⟨A2,c2,rfl,hr2⟩:=h2
    obtain⟨n2,hn2⟩:∃ n,y.length=n:=⟨_,rfl⟩
    rw[hn2]
    have hn28:n2<=8:=by rw[<-hn2];exact HL2.out y rfl
    have HN2:=Lib.hid hn2
    have HF2:=Lib.hid hr2
    have HTF:Hid (T=fin _ x y):=Lib.hid HT.out
    clear hn2 hr2 HL2 HT
    by_cases h9:8<n1+n2
    ·have h9z:decide ((8:Int)<(n1:Int)+(n2:Int))=true:=decide_eq_true (by omega)
     have HTN:Hid (T=none):=Lib.hid (HTF.out.trans (fin_no HN1.out HN2.out (by omega)))
     clear h9
     have hx0':Hx w4 w.heap.size z8:=HX0.out.gob (by have:=HSZ.out;omega) HB4.out
     have HBF:=Lib.hid (HB0.out.trans ((HB4.out:Below w1.heap.size w1 w4).mono HB0.out.size))
     go_wp2_with(first|(refine store8 rfl _ _ rfl _ z8 z8 rfl rfl hx0' rfl rfl ?_;intro wX hld hbX)|fail)
     refine bodyPost_ret (v:=.tuple #[av z8,.int .i64 31]) ?_ rfl ?_
     case refine_1=>exact results_two (u:=3) Tryz.results85 rfl hld rfl
     exact parR_none HTN.out (HBF.out.trans hbX)
    ·have h9z:decide ((8:Int)<(n1:Int)+(n2:Int))=false:=decide_eq_false (by omega)
     by_cases h8:n1+n2=8
     ·have h8z:((n1:Int)+(n2:Int)==8)=true:=by rw[beq_iff_eq];omega
      have HTN:Hid (T=none):=Lib.hid (HTF.out.trans (fin_no HN1.out HN2.out (by simp;omega)))
      clear h9 h8
      have hx0':Hx w4 w.heap.size z8:=HX0.out.gob (by have:=HSZ.out;omega) HB4.out
      have HBF:=Lib.hid (HB0.out.trans ((HB4.out:Below w1.heap.size w1 w4).mono HB0.out.size))
      go_wp2_with(first|(refine store8 rfl _ _ rfl _ z8 z8 rfl rfl hx0' rfl rfl ?_;intro wX hld hbX)|fail)
      refine bodyPost_ret (v:=.tuple #[av z8,.int .i64 31]) ?_ rfl ?_
      case refine_1=>exact results_two (u:=3) Tryz.results85 rfl hld rfl
      exact parR_none HTN.out (HBF.out.trans hbX)
     ·have h8z:((n1:Int)+(n2:Int)==8)=false:=by rw[beq_eq_false_iff_ne];omega
      have HTS:=Lib.hid (HTF.out.trans (fin_yes HN1.out HN2.out (by omega) (by simp;omega)))
      obtain⟨k2,hk2⟩:∃ k2,n2+k2=8:=⟨8-n2,by omega⟩
      have hk2i:(8:Int)-(n2:Int)=(k2:Int):=by omega
      have HSP:=Lib.hid (fin_splice HN1.out HN2.out hk2 (by omega))
      have HFL:=Lib.hid (fin_len (HTF.out.symm.trans HTS.out))
      obtain⟨R,hR⟩:∃ R,x++List.replicate (8-n1-n2) 0++y=R:=⟨_,rfl⟩
      rw[hR]at HTS HSP HFL
      have hx0':Hx w4 w.heap.size z8:=HX0.out.gob (by have:=HSZ.out;omega) HB4.out
      have hx1':Hx w4 (w.heap.size+1) z8:=HX1.out.gob (by have:=HSZ.out;omega) HB4.out
      have HBF:=Lib.hid (HB0.out.trans ((HB4.out:Below w1.heap.size w1 w4).mono HB0.out.size))
      have hsl0:=fun W=>sl_all (w.heap.size+1) W
      have hsl2:=fun W=>sl_l (w.heap.size+1) k2 (by omega) W
      rw[show 8-k2=n2 by omega]at hsl2
      have HOF:Hid (0<n2->off k2=k2):=Lib.hid (fun h=>off_lt (by omega))
      obtain⟨o2,ho2⟩:∃ o,off k2=o:=⟨_,rfl⟩
      rw[ho2]at hsl2 HOF
      have HM1:Hid ((cu x).length=Nat.min n1 8):=Lib.hid (by rw[cu_len,HN1.out];simp only[Nat.min_def];split<;>omega)
      have HM2:Hid ((cu y).length=Nat.min n2 n2):=Lib.hid (by rw[cu_len,HN2.out];simp only[Nat.min_def];split<;>omega)
      have HFT1:Hid (0+(cu x).length<=(cu z8).length):=Lib.hid (by rw[cu_len,HN1.out];show 0+n1<=8;omega)
      have HFT2:Hid (k2+(cu y).length<=(splice (cu z8) 0 (cu x)).length):=Lib.hid (by rw[length_splice _ _ _ HFT1.out,cu_len,HN2.out];show k2+n2<=8;omega)
      have HDP:Hid (0<(cu y).length->(some (⟨w.heap.size+1,o2,none⟩:Addr))=some ⟨w.heap.size+1,k2,none⟩):=Lib.hid (fun h=>by rw[cu_len,HN2.out]at h;rw[HOF.out h])
      have HK2:=Lib.hid hk2
      clear hk2 hR ho2
      go_upto_region 8 with fail
      go_wp2_with(first
       | (refine wpList_copy8 rfl _ _ rfl (some ⟨w.heap.size+1,0,none⟩) A1 8 8 n1 c1 rfl rfl (w.heap.size+1) 0 (cu z8) hx1' (cu x) HM1.out w2.heap.size (fun _=>rfl) HF1'.out HFT1.out (one_cu x) ?_;intro w5 hg5 hs5 ho5 hb5;have HF2':=Lib.hid (HF2.out.keep (Nat.le_of_eq hs5.symm) (fun b h1 h2=>ho5 b (by have:=HSZ.out;have:=HS3.out;have:=HB3.out.size;omega))))
       | (refine wpList_copy8 rfl _ _ rfl (some ⟨w.heap.size+1,o2,none⟩) A2 n2 n2 n2 c2 rfl rfl (w.heap.size+1) k2 (splice (cu z8) 0 (cu x)) hg5 (cu y) HM2.out w3.heap.size HDP.out HF2'.out HFT2.out (one_cu y) ?_;intro w6 hg6 hs6 ho6 hb6;have HX6:Hid (Hx w6 (w.heap.size+1) R):=Lib.hid (by rw[HSP.out]at hg6;exact hg6);have hx6:=HX6.out;have hr6:Hx w6 w.heap.size z8:=(hx0'.gob (Nat.lt_succ_self _) hb5).gob (Nat.lt_succ_self _) hb6)
       | (refine load8 _ rfl _ rfl R hx6 HFL.out rfl ?_)
       | (refine store8 rfl _ _ rfl _ z8 R rfl rfl hr6 rfl HFL.out ?_;intro wX hld hbX)
       | fail)
      refine bodyPost_ret (v:=.tuple #[av R,.int .i64 0]) ?_ rfl ?_
      case refine_1=>exact results_two (u:=3) Tryz.results85 rfl hld rfl
      exact parR_some HTS.out (HBF.out.trans (((hb5.trans hb6).mono (Nat.le_succ _)).trans hbX))
end Go.Proofs.YtkibdkfdffkkfaaGreatDoor.Sx
