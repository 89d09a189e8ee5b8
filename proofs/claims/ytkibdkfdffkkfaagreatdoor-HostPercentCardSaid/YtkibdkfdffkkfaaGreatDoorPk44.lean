import Derived.Test.YtkibdkfdffkkfaaGreatDoorPk37
import Derived.Test.YtkibdkfdffkkfaaGreatDoorPk43
set_option maxRecDepth 100000
set_option maxHeartbeats 8000000
namespace Go.Proofs.YtkibdkfdffkkfaaGreatDoor.Hst
open Go.RowKit Go.Shelf Utf Remap Norm Pn Puny
theorem bidi_any(q:Pr)(W:World)(h:PrI W q):Calls Tryz.prog 199 #[.agg #[.string q.s,.slice q.A q.n q.c]] W (Says (Rul.bid q.o) W):=by
 obtain⟨s,A,n,c,o⟩:=q
 obtain⟨hn,hl,hr⟩:=h
 dsimp only at hn hl hr ⊢
 have hB0:=upA W (.cells #[.string s,.slice A n c] 229)
 have HB:=Lib.hid (Rul.Bidi_any o A n c (W.alloc (.cells #[.string s,.slice A n c] 229)) hn (by omega) (hr.below hB0).row)
 generalize Rul.bid o=p at HB ⊢
 clear hr hn hl
 go_enter Tryz.func199,Tryz.ntmps199
 go_wp2_with(first|(go_at_call 253;refine HB.out.mono ?_;rintro e w1 ⟨rfl,hB1⟩)|fail)
 go_ret
 exact⟨rfl,upB hB0 hB1⟩
def vlt (o:List Int):Bool:=!o.isEmpty&&Rul.chk o != 0
theorem violates_any(q:Pr)(W:World)(h:PrI W q):Calls Tryz.prog 200 #[.agg #[.string q.s,.slice q.A q.n q.c]] W (Says (vlt q.o) W):=by
 obtain⟨s,A,n,c,o⟩:=q
 obtain⟨hn,hl,hr⟩:=h
 dsimp only at hn hl hr ⊢
 have hB0:=upA W (.cells #[.string s,.slice A n c] 229)
 have HB:=Lib.hid (Rul.Check_any o A n c (W.alloc (.cells #[.string s,.slice A n c] 229)) hn (by omega) (hr.below hB0).row)
 unfold Rul.Tells at HB
 by_cases h0:0<n
 ·have hE:Hid (vlt o=(Rul.chk o != 0)):=Lib.hid (by
   unfold vlt
   cases o with
   | nil=>simp at hn;omega
   | cons x t=>rfl)
  rw[hE.out]
  have h0z:(0:Int)<(n:Int):=by omega
  have h0d:decide ((0:Int)<(n:Int))=true:=decide_eq_true h0z
  generalize Rul.chk o=p at HB ⊢
  clear hr hn hl hE
  go_enter Tryz.func200,Tryz.ntmps200
  go_wp2_with(first|(go_at_call 254;refine HB.out.mono ?_;rintro e w1 ⟨rfl,hB1⟩)|fail)
  go_ret
  exact⟨by first|rfl|simp,upB hB0 hB1⟩
 ·have hE:Hid (vlt o=false):=Lib.hid (by
   have:o=[]:=List.eq_nil_of_length_eq_zero (by omega)
   rw[this];rfl)
  rw[hE.out]
  have h0z:¬ (0:Int)<(n:Int):=by omega
  have h0d:decide ((0:Int)<(n:Int))=false:=decide_eq_false h0z
  clear hr hn hl hE HB
  go_enter Tryz.func200,Tryz.ntmps200
  go_wp2_with fail
  go_ret
  exact⟨by first|rfl|simp,hB0⟩
def renP:Ren:=⟨fun|6=>252|8=>198|n=>n,fun|22=>190|23=>229|25=>236|0=>0|3=>3|4=>4|n=>n,fun n=>n⟩
theorem cfpLaid:SlLaysH0.n8 Tryz.prog renP:={
 mixed:=by kernel_rfl
 f6:=⟨Tryz.f252.name,by decide +kernel,by kernel_rfl⟩
 f8:=⟨Tryz.f198.name,by decide +kernel,by kernel_rfl⟩
 t0:=Tryz.underlying0
 a0:=Tryz.isAgg0
 z0:=Tryz.sizeOf0
 v0:=Tryz.zeroValue0
 t3:=Tryz.underlying3
 a3:=Tryz.isAgg3
 z3:=Tryz.sizeOf3
 v3:=Tryz.zeroValue3
 t4:=Tryz.underlying4
 a4:=Tryz.isAgg4
 z4:=Tryz.sizeOf4
 v4:=Tryz.zeroValue4
 t22:=Tryz.underlying190
 a22:=Tryz.isAgg190
 z22:=Tryz.sizeOf190
 v22:=Tryz.zeroValue190
 t25:=Tryz.underlying236
 a25:=Tryz.isAgg236
 z25:=Tryz.sizeOf236
 v25:=Tryz.zeroValue236 }
theorem eBi:∀ args w,(callFunc 199 args).run Tryz.prog w = .ok (.enter 199 args) w:=enters_of Tryz.func199 (by kernel_rfl) rfl
theorem eVi:∀ args w,(callFunc 200 args).run Tryz.prog w = .ok (.enter 200 args) w:=enters_of Tryz.func200 (by kernel_rfl) rfl
instance prInh (w:World):Inhabited {q:Pr // PrI w q}:=⟨⟨⟨.empty,none,0,0,[]⟩,rfl,by decide,.inl rfl⟩⟩
theorem lift_sub{P:Pr->Prop}:∀ (qs:List Pr),(∀ q∈qs,P q)->∃ zs:List {q:Pr // P q},zs.map (·.1)=qs
 | [],_=>⟨[],rfl⟩
 | q :: t, h => by
  obtain⟨zs,hz⟩:=lift_sub t fun x hx=>h x (List.mem_cons_of_mem _ hx)
  exact⟨⟨q,h q (List.mem_cons_self ..)⟩::zs,by rw[List.map_cons,hz]⟩
theorem pcl_at:∀ {qs:List Pr} {j:Nat} {q:Pr},qs[j]? = some q->(pcl qs)[j*2]? = some (.string q.s)/\(pcl qs)[j*2+1]? = some (.slice q.A q.n q.c)
 | [],j,q,h=>by simp at h
 | x :: t, 0, q, h => by
  simp at h
  subst h
  exact⟨rfl,rfl⟩
 | x :: t, j + 1, q, h => by
  have ih:=pcl_at (qs:=t) (j:=j) (q:=q) (by simpa using h)
  have e:pcl (x::t) = .string x.s :: .slice x.A x.n x.c::pcl t:=rfl
  rw[e,show (j+1)*2=j*2+1+1 by omega]
  exact ih
def Prs (w:World) (g:Nat) (qs:List Pr):Prop:=g<w.heap.size/\(∀ (k:Nat) v,(pcl qs)[k]? = some v->w.cell? ⟨g,k,none⟩=some v)/\∀ q∈qs,PrI w q
theorem Prs.below{w w':World}{g:Nat}{qs:List Pr}(h:Prs w g qs)(hB:Below w.heap.size w w'):Prs w' g qs :=
 ⟨Nat.lt_of_lt_of_le h.1 hB.size,fun k v hv=>(hB.cell (p:=⟨g,k,none⟩) h.1).trans (h.2.1 k v hv),fun q hq=>(h.2.2 q hq).below hB⟩
theorem Prs.of_own{w:World}{base c:Nat}{A:Option Addr}{qs:List Pr}(h:w.ownsRow base 229 2 (.slice A qs.length c) qs.length (pcl qs))(h0:qs≠[])(hq:∀ q∈qs,PrI w q):∃ g,A=some ⟨g,0,none⟩/\qs.length<=c/\Prs w g qs:=by
 rcases h.2 with ⟨_,hn⟩|⟨g,cap,cur,hv,_,hg,hn,_⟩
 ·exact absurd (List.eq_nil_of_length_eq_zero hn) h0
 ·injection hv with h1 h2 h3
  subst h1
  subst h3
  refine⟨g,rfl,hn,(Array.getElem?_eq_some_iff.1 hg).1,fun k v hk => ?_,hq⟩
  have hlt:=(List.getElem?_eq_some_iff.1 hk).1
  rw[h.cellAt k (by rw[<-h.1];exact hlt),hk]
theorem Contains_p(f:Nat)(p:List Int->Bool)(ef:∀ args w,(callFunc f args).run Tryz.prog w = .ok (.enter f args) w)
  (hf:∀ (q:Pr) (W:World),PrI W q->Calls Tryz.prog f #[.agg #[.string q.s,.slice q.A q.n q.c]] W (Says (p q.o) W)) (qs:List Pr) (g m c:Nat) (w:World) (hm:qs.length=m) (hm1:m<=1000000) (h:Prs w g qs) :
  Calls Tryz.prog 198 #[.slice (some ⟨g,0,none⟩) m c,.func (.func f) #[] #[]] w (Says (qs.any fun q=>p q.o) w):=by
 obtain⟨zs,hz⟩:=lift_sub qs h.2.2
 have hzl:zs.length=m:=by rw[<-hm,<-hz,List.length_map]
 have key:=AnyQ.slices_ContainsFunc cfpLaid 2 Tryz.isAgg229 Tryz.sizeOf229 (fun x:{q:Pr // PrI w q} => [.string x.1.s,.slice x.1.A x.1.n x.1.c]) (fun _=>rfl)
  (fun x=>p x.1.o) f #[] ef g 0 m c zs w
  (fun W x hb=>(hf x.1 W (x.2.below hb)).mono fun e w' hs=>⟨hs.1,upB hb hs.2⟩) (by omega) (by omega) h.1
  (fun j hj i v hv=>by
   have hq:qs[j]? = some zs[j]!.1:=by rw[<-hz,List.getElem?_map,List.getElem?_eq_getElem hj,getElem!_pos zs j hj];rfl
   obtain⟨h1,h2⟩:=pcl_at hq
   rw[Nat.zero_add]
   match i,hv with
   | 0,hv=>cases hv;exact h.2.1 _ _ h1
   | 1,hv=>cases hv;exact h.2.1 _ _ h2
   | i+2,hv=>simp at hv)
 have e:(zs.take m).any (fun x=>p x.1.o)=qs.any fun q=>p q.o:=by
  rw[List.take_of_length_le (by omega),<-hz,List.any_map]
  rfl
 rw[e]at key
 exact key
def unq (qs:List Pr):Bool:=(qs.any fun q=>Rul.bid q.o)&&qs.any fun q=>vlt q.o
theorem unq_unr(qs:List Pr):unq qs=unr (qs.map Pr.val):=by
 unfold unq unr
 rw[List.any_map,List.any_map]
 rfl
theorem unruly_any(qs:List Pr)(g m c:Nat)(w:World)(hm:qs.length=m)(hm1:m<=1000000)(h:Prs w g qs):Calls Tryz.prog 149 #[.slice (some ⟨g,0,none⟩) m c] w (Says (unq qs) w):=by
 have HB:=Lib.hid (Contains_p 199 Rul.bid eBi bidi_any qs g m c w hm hm1 h)
 have HV:=Lib.hid (fun W (hb:Below w.heap.size w W)=>Contains_p 200 vlt eVi violates_any qs g m c W hm hm1 (h.below hb))
 unfold unq
 generalize (qs.any fun q=>Rul.bid q.o)=p at HB ⊢
 generalize (qs.any fun q=>vlt q.o)=v at HV ⊢
 clear h hm
 cases p with
 | false =>
  go_enter Tryz.func149,Tryz.ntmps149
  go_wp2_with(first|(go_at_call 198;refine HB.out.mono ?_;rintro e w1 ⟨rfl,hB1⟩)|fail)
  go_ret
  exact⟨rfl,hB1⟩
 | true =>
  go_enter Tryz.func149,Tryz.ntmps149
  go_upto_region 1 with fail
  go_wp2_with fail
  refine HB.out.mono ?_
  rintro e w1 ⟨rfl,hB1⟩
  go_wp2_with fail
  refine (HV.out _ hB1).mono ?_
  rintro e w2 ⟨rfl,hB2⟩
  go_wp2_with fail
  go_ret
  exact⟨by first|rfl|simp,upB hB1 hB2⟩
theorem makeS(m:Nat)(hm:m<=100000)(w:World):(Instr.makeSlice 45 (.int .i64 (m:Int)) (.int .i64 (m:Int))).run Tryz.prog w = .ok (.slice (some ⟨w.heap.size,0,none⟩) m m) (w.alloc (.cells (List.replicate m (.string ⟨#[]⟩)).toArray 9)):=by
 cases hi:Tryz.prog.info? 9 with
 | none=>have:=Fou.info_s;rw[hi]at this;cases this
 | some i =>
  have h:=Fou.info_s
  rw[hi]at h
  simp only[Option.map_some,Option.some.injEq,Prod.mk.injEq]at h
  obtain⟨h1,h2,h3⟩:=h
  have:=run_makeSlice (w:=w) 45 9 i _ Tryz.underlying45 hi h1 .i64 .i64 (m:Int) (m:Int) (by omega) (by omega) (by rw[h2];omega) (by rw[h3];omega) (by omega)
  have hmc:madeCells (Value.string ByteArray.empty).cells (Int.toNat (m:Int)*1)=(List.replicate m (.string ⟨#[]⟩)).toArray:=by
   apply Array.ext'
   rw[show (Value.string ByteArray.empty).cells=#[.string ByteArray.empty] from rfl,toList_madeCells_one]
   simp
   exact .inr rfl
  rw[this,h2,hmc]
  simp
def Txs (qs:List Pr) (k h:Nat) (w:World):Prop:=(∀ j,j<qs.length->w.cell? ⟨h,j,none⟩=some (.string (if j<k then (qs[j]?.map (·.s)).getD ⟨#[]⟩ else ⟨#[]⟩))/\w.frozen? ⟨h,j,none⟩=false)/\h<w.heap.size
theorem Txs.go{qs:List Pr}{k h:Nat}{w w':World}(hf:Txs qs k h w)(hb:Below w.heap.size w w'):Txs qs k h w' :=
 ⟨fun j hj=>⟨(hb.cell (p:=⟨h,j,none⟩) hf.2).trans (hf.1 j hj).1,(hb.frozen (p:=⟨h,j,none⟩) hf.2).trans (hf.1 j hj).2⟩,Nat.lt_of_lt_of_le hf.2 hb.size⟩
theorem Txs.step{qs:List Pr}{k h:Nat}{w:World}{q:Pr}(hf:Txs qs k h w)(hk:qs[k]? = some q):Txs qs (k+1) h (w.setCell ⟨h,k,none⟩ (.string q.s)):=by
 refine⟨fun j hj=>⟨?_,by rw[World.frozen?_setCell];exact (hf.1 j hj).2⟩,by simpa[World.setCell] using hf.2⟩
 by_cases hjk:j=k
 ·subst hjk
  rw[if_pos (Nat.lt_succ_self _),hk]
  exact World.cell?_setCell_same _ _ _ (hf.1 j hj).1
 ·rw[World.cell?_setCell_other _ _ _ _ (by intro e;injection e;omega),(hf.1 j hj).1]
  by_cases hlt:j<k
  ·rw[if_pos hlt,if_pos (by omega)]
  ·rw[if_neg hlt,if_neg (by omega)]
theorem Txs.new(qs:List Pr)(w:World):Txs qs 0 w.heap.size (w.alloc (.cells (List.replicate qs.length (.string ⟨#[]⟩)).toArray 9)):=by
 refine⟨fun j hj => ?_,by simp⟩
 have hn:=World.alloc_heap_new w (.cells (List.replicate qs.length (.string ⟨#[]⟩)).toArray 9)
 rw[if_neg (by omega)]
 refine⟨?_,by rw[World.frozen?,hn];simp⟩
 rw[World.cell?_alloc_new]
 simp[hj]
theorem Txs.all{qs:List Pr}{h:Nat}{w:World}(hf:Txs qs qs.length h w):∀ (j:Nat) x,(qs.map (·.s))[j]? = some x->w.cell? ⟨h,j,none⟩=some (.string x):=by
 intro j x hx
 rw[List.getElem?_map]at hx
 have hj:j<qs.length:=by
  rcases Nat.lt_or_ge j qs.length with h1|h1
  ·exact h1
  ·rw[List.getElem?_eq_none h1]at hx;cases hx
 rw[(hf.1 j hj).1,if_pos hj,hx]
 rfl
theorem Join_dots(bk c:Nat)(xs:List ByteArray)(w:World)(hcells:∀ (j:Nat) x,xs[j]? = some x->w.cell? ⟨bk,j,none⟩=some (.string x))(hbk:bk<w.heap.size)(hN:xs.length<=1000)(hcap:xs.length<=c)
  (hlen:(Lib.join (xs.map dl) [46]).length<=100000000):Calls Tryz.prog 201 #[.slice (some ⟨bk,0,none⟩) xs.length c,.string ⟨#[46]⟩] w (Fou.Texts (Lib.join (xs.map dl) [46]) w) :=
 Any.strings_Join Fou.joinLaid Fou.joinExtra bk 0 c xs ⟨#[46]⟩ w (fun j x h=>by rw[Nat.zero_add];exact hcells j x h) hbk (by omega) hcap (Nat.le_trans hlen (by decide))
theorem Join_qs(bk m:Nat)(qs:List Pr)(w:World)(hm:qs.length=m)(hf:Txs qs m bk w)(hN:m<=1000)(hlen:(Lib.join (qs.map fun q=>dl q.s) [46]).length<=100000000) :
  Calls Tryz.prog 201 #[.slice (some ⟨bk,0,none⟩) m m,.string ⟨#[46]⟩] w (Fou.Texts (Lib.join (qs.map fun q=>dl q.s) [46]) w):=by
 subst hm
 have e:(qs.map (·.s)).map dl=qs.map fun q=>dl q.s:=by rw[List.map_map];rfl
 have:=Join_dots bk qs.length (qs.map (·.s)) w hf.all hf.2 (by rw[List.length_map];exact hN) (by rw[List.length_map];exact Nat.le_refl _) (by rw[e];exact hlen)
 rw[e,List.length_map]at this
 exact this
theorem join_any(qs:List Pr)(g m c:Nat)(w:World)(hm:qs.length=m)(hm1:m<=1000)(h:Prs w g qs)(hlen:(Lib.join (qs.map fun q=>dl q.s) [46]).length<=100000000) :
  Calls Tryz.prog 150 #[.slice (some ⟨g,0,none⟩) m c] w (TextR (Lib.join (qs.map fun q=>dl q.s) [46]) w):=by
 have HM:=Lib.hid (makeS m (by omega))
 have HT0:Hid (Txs qs 0 w.heap.size (w.alloc (.cells (List.replicate m (.string ⟨#[]⟩)).toArray 9))):=Lib.hid (by rw[<-hm];exact Txs.new qs w)
 have HB0:=Lib.hid (upA w (.cells (List.replicate m (.string ⟨#[]⟩)).toArray 9))
 have HJ:=Lib.hid (fun W (hf:Txs qs m w.heap.size W)=>Join_qs w.heap.size m qs W hm hf hm1 hlen)
 obtain⟨t,ht⟩:∃ t,Lib.join (qs.map fun q=>dl q.s) [46]=t:=⟨_,rfl⟩
 rw[ht]at HJ ⊢
 have HH:=Lib.hid h
 have HL:=Lib.hid hm
 have hmk:=HM.out w
 clear h hm hlen ht
 obtain⟨w1,hw1⟩:∃ w1,w.alloc (.cells (List.replicate m (.string ⟨#[]⟩)).toArray 9)=w1:=⟨_,rfl⟩
 rw[hw1]at HT0 HB0 hmk
 clear hw1
 go_enter Tryz.func150,Tryz.ntmps150
 go_wp2_with fail
 go_loopg [11] m (fun k s11 wr => ∃ i:Nat,s11 = .int .i64 (i:Int)/\k=m-i/\i<=m/\Hid (Txs qs i w.heap.size wr)/\Below w.heap.size w wr)
 case atStart=>exact⟨0,rfl,rfl,Nat.zero_le _,HT0,HB0.out⟩
 case round =>
  obtain⟨i,rfl,rfl,hi,HTx,hB⟩:=hrel
  by_cases hlt:i<m
  ·have hltz:(i:Int)<(m:Int):=by omega
   obtain⟨q,hq⟩:∃ q,qs[i]? = some q:=⟨qs[i]'(by rw[HL.out];exact hlt),List.getElem?_eq_getElem (by rw[HL.out];exact hlt)⟩
   have hPw:=HH.out.below hB
   obtain⟨hp0,hp1⟩:=pcl_at hq
   have c0:=hPw.2.1 _ _ hp0
   have c1:=hPw.2.1 _ _ hp1
   obtain⟨e0,f0⟩:=HTx.out.1 i (by rw[HL.out];exact hlt)
   rw[if_neg (Nat.lt_irrefl _)]at e0
   have hsz:=HTx.out.2
   have HQ:=Lib.hid hq
   clear hPw hp0 hp1 hq
   go_wp2_with fail
   go_roundg (m-(i+1))
   case measure=>omega
   case rel =>
    refine⟨i+1,by go_num,rfl,by omega,Lib.hid ((HTx.out.step HQ.out).go (upA _ _)), ?_⟩
    exact (hB.setCell (p:=⟨w.heap.size,i,none⟩) (Nat.le_refl _) _).alloc (by simp[World.setCell];exact hB.size) _
  ·obtain rfl:i=m:=by omega
   have hltz:¬ ((i:Nat):Int)<(i:Int):=by omega
   have HJ2:=Lib.hid (HJ.out wr HTx.out)
   unfold Fou.Texts at HJ2
   go_wp2_with(first|(go_at_call 201;refine HJ2.out.mono ?_;rintro e w2 ⟨rfl,hB2⟩)|fail)
   go_ret
   exact⟨_,rfl,Fou.bs_data _,hB.trans (hB2.mono hB.size)⟩
theorem read_any(L:List Nat)(A:Option Addr)(k c:Nat)(w:World)(hk:L.length=k)(hc:k<=c)(hL:k<=100000)(hs:∀ x∈L,Puny.sca x=true)(h9:∀ p∈lab L,p.length<=900)(hr:RT w A (ofN L)) :
  Calls Tryz.prog 147 #[.slice A k c] w (RdsR L w):=callsIn_wide.1 (read_in 3 (by omega) L A k c w hk hc hL hs h9 hr)
theorem ascN_len{x:List Nat}(hs:∀ y∈x,Puny.sca y=true)(hl:x.length<=900):(ascN x).length<=10004:=by
 unfold ascN
 split
 ·have:=encT_len hs hl
  simp
  omega
 ·rename_i h
  have hb:(ofN x).any byd=false:=by simpa using h
  rw[runes_asc (byd_none hb),List.length_map]
  omega
theorem rdv_bytes{x:List Nat}{p:Prt}(hs:∀ y∈x,Puny.sca y=true)(hl:x.length<=900)(h:rdv x = .inr p):p.1.length<=10004:=by
 rcases rdv_inr h with ⟨hA,o,_,rfl⟩|⟨_,_,rfl⟩
 ·show (dl (runesBytes (ofN x))).length<=_
  rw[runes_asc (aL_asc hA),List.length_map]
  omega
 ·exact ascN_len hs hl
theorem rds_mem:∀ {a:List (List Nat)} {ps:List Prt},rds a=some ps->∀ p∈ps,∃ x∈a,rdv x = .inr p
 | [],ps,h,p,hp=>by cases h;simp at hp
 | x :: t, ps, h, p, hp => by
  cases hx:rdv x with
  | inl e=>rw[rds_cons_inl hx]at h;cases h
  | inr q =>
   rw[rds_cons_inr hx,Option.map_eq_some_iff]at h
   obtain⟨qs,hq,rfl⟩:=h
   rcases List.mem_cons.1 hp with rfl|hp
   ·exact⟨x,List.mem_cons_self ..,hx⟩
   ·obtain⟨y,hy,hv⟩:=rds_mem hq p hp
    exact⟨y,List.mem_cons_of_mem _ hy,hv⟩
theorem join_len:∀ (ps:List (List UInt8)) (k:Nat),(∀ p∈ps,p.length<=k)->(Lib.join ps [46]).length<=ps.length*(k+1)
 | [],_,_=>by simp[Lib.join_nil]
 | [p], k, h => by
  rw[Lib.join_one]
  have:=h p (List.mem_cons_self ..)
  simp
  omega
 | p :: q :: t, k, h => by
  have ih:=join_len (q::t) k fun x hx=>h x (List.mem_cons_of_mem _ hx)
  have hp:=h p (List.mem_cons_self ..)
  have e:Lib.join (p::q::t) [46]=p++[46]++Lib.join (q::t) [46]:=by
   rw[Lib.join_cons,Lib.join_cons]
   simp[Lib.joinTail]
  have e2:(p::q::t).length*(k+1)=(q::t).length*(k+1)+(k+1):=Nat.succ_mul _ _
  rw[e,List.length_append,List.length_append,e2]
  have e3:([46]:List UInt8).length=1:=rfl
  omega
def ToR (l:List Int) (w:World) (e:Ending) (w':World):Prop :=
 (tA l=none/\∃ x:Int,x≠0/\e = .returned (.tuple #[.string ⟨#[]⟩,.int .i64 x])/\Below w.heap.size w w') ∨
 ∃ s,tA l=some (dl s)/\e = .returned (.tuple #[.string s,.int .i64 0])/\Below w.heap.size w w'
def Fits (l:List Int):Prop:=good l=true->(mapL l).length<=4000/\(lab (toN (nfc (mapL l)))).length<=1000/\∀ p∈lab (toN (nfc (mapL l))),p.length<=900
theorem RT.cap{w:World}{base n c:Nat}{A:Option Addr}{xs:List Value}{e:TypeId}{size:Nat}(h:w.ownsRow base e size (.slice A n c) n xs):n<=c:=by
 rcases h.2 with ⟨_,h0⟩|⟨g,cap,cur,hv,_,hg,hn,_⟩
 ·omega
 ·injection hv with _ _ h3
  omega
theorem ToASCII_any(l:List Int)(A:Option Addr)(n c:Nat)(w:World)(hn:l.length=n)(hl:n<=2000)(hF:Fits l)(hr:Row w w.heap.size A (cl .i32 l)):Calls Tryz.prog 88 #[.slice A n c] w (ToR l w):=by
 have HMP:=Lib.hid (MapG_any l A n c w hn hl hr)
 unfold MapG at HMP
 have hlz:¬ (2000:Int)<(n:Int):=by omega
 obtain⟨q,hq⟩:∃ q,good l=q:=⟨_,rfl⟩
 rw[hq]at HMP
 have HG:=Lib.hid hq
 cases q with
 | false =>
  have HV:Hid (tA l=none):=Lib.hid (by unfold tA;rw[if_pos HG.out])
  obtain⟨m,hm⟩:∃ m,mapL l=m:=⟨_,rfl⟩
  rw[hm]at HMP
  clear hq hF hr hn hm
  go_enter Tryz.func88,Tryz.ntmps88
  go_wp2_with(first|(go_at_call 146;refine HMP.out.mono ?_;rintro e w1 ⟨A1,c1,rfl,hO1,hB1⟩)|fail)
  go_ret2
  exact .inl ⟨HV.out,60,by decide,rfl,hB1⟩
 | true =>
  obtain⟨hf1,hf2,hf3⟩:=hF HG.out
  have hsc:=mapL_sca HG.out
  have hnsc:=nfc_sca hsc
  have hcm:C32 (mapL l):=fun x hx=>by have:=sca_pos (hsc x hx);omega
  have hof:=toN_ofN (fun x hx=>(sca_pos (hnsc x hx)).1) (l:=nfc (mapL l))
  have hnl:=nfc_len (mapL l) hcm
  have HSC:=Lib.hid (toN_sca hnsc)
  have hlt:(toN (nfc (mapL l))).length=(nfc (mapL l)).length:=by unfold toN;rw[List.length_map]
  have HV:Hid (tA l=match rds (lab (toN (nfc (mapL l)))) with
   | none=>none
   | some ps=>if mapL l=[]∨unr ps=true then none else some (jnd ps)):=Lib.hid (by unfold tA;rw[if_neg (by rw[HG.out];decide)];rfl)
  have HF2:=Lib.hid hf2
  have HF3:=Lib.hid hf3
  obtain⟨L,hL⟩:∃ L,toN (nfc (mapL l))=L:=⟨_,rfl⟩
  obtain⟨M,hM⟩:∃ M,mapL l=M:=⟨_,rfl⟩
  rw[hL]at hof hlt HSC HV HF2 HF3
  rw[hM]at hof hlt hf1 hcm hnl HV HMP
  obtain⟨mk,hmk⟩:∃ mk,M.length=mk:=⟨_,rfl⟩
  rw[hmk]at HMP hf1 hnl
  obtain⟨nk,hnk⟩:∃ nk,(nfc M).length=nk:=⟨_,rfl⟩
  rw[hnk]at hlt hnl
  have HN:Hid (∀ (A1:Option Addr) (c1:Nat) (W:World),Row W W.heap.size A1 (cl .i32 M)->Calls Tryz.prog 148 #[.slice A1 mk c1] W (fun e w' => ∃ g c,e = .returned (.slice (some ⟨g,0,none⟩) nk c)/\nk<=c/\RT w' (some ⟨g,0,none⟩) (ofN L)/\Below W.heap.size W w')):=Lib.hid (fun A1 c1 W h=>by
   have:=NFC_any 100000 stable_any M A1 c1 W (by omega) hcm h (runs_1000 hmk hf1)
   rw[hmk]at this
   refine this.mono ?_
   rintro e w' ⟨g,c,he,ho,hb⟩
   rw[hnk]at he ho
   rw[<-hof]at ho
   exact⟨g,c,he,RT.cap ho,.of_own ho,hb⟩)
  have HRD:Hid (∀ (A1:Option Addr) (c1:Nat) (W:World),nk<=c1->RT W A1 (ofN L)->Calls Tryz.prog 147 #[.slice A1 nk c1] W (RdsR L W)):=Lib.hid (fun A1 c1 W hc h=>read_any L A1 nk c1 W hlt hc (by omega) HSC.out HF3.out h)
  have HE:Hid (M=[]↔mk=0):=Lib.hid (by rw[<-hmk];exact List.length_eq_zero_iff.symm)
  have HLN:Hid (lab L≠[]):=Lib.hid (lab_ne L)
  have hmkz:(mk:Int)<=4000:=by omega
  clear hq hr hn hL hM hmk hnk hof hlt hcm hsc hnsc hf2 hf3 hF
  go_enter Tryz.func88,Tryz.ntmps88
  go_upto_region 4 with(first|(go_at_call 146;refine HMP.out.mono ?_;rintro e w1 ⟨A1,c1,rfl,hO1,hB1⟩)|fail)
  have hr1:=Row.of_own hO1
  clear hO1
  go_wp2_with fail
  refine (HN.out _ _ _ hr1).mono ?_
  rintro e w2 ⟨g2,c2,rfl,hc2,hT2,hB2⟩
  go_wp2_with fail
  refine (HRD.out _ _ _ hc2 hT2).mono ?_
  rintro e w3 (⟨hno,x,hx,rfl,hB3⟩|⟨qs,A3,c3,hyes,rfl,hO3,hP3,hB3⟩)
  ·have hxz:(x != 0)=true:=by simpa using hx
   have HVN:Hid (tA l=none):=Lib.hid (by rw[HV.out,hno])
   have HX:=Lib.hid hx
   clear hno hx hT2 hr1
   go_wp2_with fail
   go_ret2
   exact .inl ⟨HVN.out,x,HX.out,rfl,upB (upB hB1 hB2) hB3⟩
  ·have hB13:=upB (upB hB1 hB2) hB3
   have hql:qs.length=(lab L).length:=by have:=rds_len hyes;rwa [List.length_map]at this
   have hqne:qs≠[]:=fun e=>HLN.out (List.eq_nil_of_length_eq_zero (by rw[<-hql,e];rfl))
   obtain⟨g,rfl,hc3,hPr⟩:=Prs.of_own hO3 hqne hP3
   have hq1000:qs.length<=1000:=by rw[hql];exact HF2.out
   have HVS:Hid (tA l=if M=[]∨unq qs=true then none else some (Lib.join (qs.map fun q=>dl q.s) [46])):=Lib.hid (by
    rw[HV.out,hyes,unq_unr]
    dsimp only
    have e:jnd (qs.map Pr.val)=Lib.join (qs.map fun q=>dl q.s) [46]:=by
     unfold jnd
     rw[List.map_map]
     rfl
    rw[e])
   have hjl:(Lib.join (qs.map fun q=>dl q.s) [46]).length<=100000000:=by
    have:=join_len (qs.map fun q=>dl q.s) 10004 (fun p hp=>by
     obtain⟨q,hq,rfl⟩:=List.mem_map.1 hp
     obtain⟨x,hx,hv⟩:=rds_mem hyes q.val (List.mem_map.2 ⟨q,hq,rfl⟩)
     exact rdv_bytes (fun y hy=>HSC.out y ((lab_mem hx).1 y hy).1) (HF3.out x hx) hv)
    rw[List.length_map]at this
    omega
   obtain⟨m,hm⟩:∃ m,qs.length=m:=⟨_,rfl⟩
   have HU:=Lib.hid (unruly_any qs g m c3 w3 hm (by omega) hPr)
   have HJ:=Lib.hid (fun W (h:Below w3.heap.size w3 W)=>join_any qs g m c3 W hm (by omega) (hPr.below h) hjl)
   rw[hm]at hc3 hq1000 ⊢
   obtain⟨t,ht⟩:∃ t,Lib.join (qs.map fun q=>dl q.s) [46]=t:=⟨_,rfl⟩
   rw[ht]at HJ HVS
   obtain⟨u,hu⟩:∃ u,unq qs=u:=⟨_,rfl⟩
   rw[hu]at HU HVS
   clear hyes hql hqne hO3 hP3 hPr hjl ht hu hm hT2 hr1 HN HRD
   by_cases h0:mk=0
   ·have hz:(mk:Int)=0:=by omega
    have hzb:((mk:Int)==0)=true:=by rw[hz];rfl
    have HVN:Hid (tA l=none):=Lib.hid (by rw[HVS.out,if_pos (.inl (HE.out.2 h0))])
    go_wp2_with fail
    go_ret2
    exact .inl ⟨HVN.out,110,by decide,rfl,hB13⟩
   ·have hz:¬ (mk:Int)=0:=by omega
    have hzb:((mk:Int)==0)=false:=by simpa using hz
    cases u with
    | true =>
     have HVN:Hid (tA l=none):=Lib.hid (by rw[HVS.out,if_pos (.inr rfl)])
     go_wp2_with(first|(go_at_call 149;refine HU.out.mono ?_;rintro e w4 ⟨rfl,hB4⟩)|fail)
     go_ret2
     exact .inl ⟨HVN.out,110,by decide,rfl,upB hB13 hB4⟩
    | false =>
     have HVN:Hid (tA l=some t):=Lib.hid (by rw[HVS.out,if_neg (fun e=>e.elim (fun e=>h0 (HE.out.1 e)) (fun e=>by cases e))])
     go_wp2_with(first|(go_at_call 149;refine HU.out.mono ?_;rintro e w4 ⟨rfl,hB4⟩)|(go_at_call 150;refine (HJ.out _ hB4).mono ?_;rintro e w5 ⟨s5,rfl,hs5,hB5⟩)|fail)
     go_ret2
     exact .inr ⟨s5,by rw[HVN.out,hs5],rfl,upB (upB hB13 hB4) hB5⟩
end Go.Proofs.YtkibdkfdffkkfaaGreatDoor.Hst
namespace Go.Proofs.YtkibdkfdffkkfaaGreatDoor.Ctx
open Go.RowKit Ucd
end Go.Proofs.YtkibdkfdffkkfaaGreatDoor.Ctx
namespace Go.Proofs.YtkibdkfdffkkfaaGreatDoor.Hst
open Go.RowKit Utf Remap Norm Pn Puny
theorem join_cons2{p:List UInt8}{ps:List (List UInt8)}(h:ps≠[])(sep:List UInt8):Lib.join (p::ps) sep=p++sep++Lib.join ps sep:=by
 cases ps with
 | nil=>exact absurd rfl h
 | cons a b =>
  rw[Lib.join_cons,Lib.join_cons]
  simp[Lib.joinTail]
end Go.Proofs.YtkibdkfdffkkfaaGreatDoor.Hst
namespace Go.Proofs.YtkibdkfdffkkfaaGreatDoor.Hst
open Go.RowKit Utf Ut Remap Norm Pn Puny
abbrev hV (k:Int) (s:ByteArray):Value:=.agg #[.int .u8 k,.string s,.int .u32 0,.int .u16 0,.int .u16 0,.int .u16 0,.int .u16 0,.int .u16 0,.int .u16 0,.int .u16 0,.int .u16 0]
def OpR (l:List Int) (w:World) (e:Ending) (w':World):Prop:=e = .returned (.tuple (if l.any forb=true then #[hV 0 ⟨#[]⟩,.int .i64 32] else #[hV 5 (strOfNums (penc l)),.int .i64 0]))/\Below w.heap.size w w'
theorem opR_no{l:List Int}{w w':World}(h:l.any forb=true)(hB:Below w.heap.size w w'):OpR l w (.returned (.tuple #[hV 0 ⟨#[]⟩,.int .i64 32])) w':=by unfold OpR;rw[if_pos h];exact⟨rfl,hB⟩
theorem opR_yes{l:List Int}{s:ByteArray}{w w':World}(h:l.any forb=false)(hs:s=strOfNums (penc l))(hB:Below w.heap.size w w'):OpR l w (.returned (.tuple #[hV 5 s,.int .i64 0])) w':=by subst hs;unfold OpR;rw[if_neg (by rw[h];decide)];exact⟨rfl,hB⟩
theorem opaque_any(l:List Int)(A:Option Addr)(n c:Nat)(w:World)(hn:l.length=n)(hl:n<=1000)(hr:Row w w.heap.size A (cl .i32 l)):Calls Tryz.prog 49 #[.slice A n c] w (OpR l w):=by
 have hB0:=upA w (.cells #[.int .u8 0,.string ⟨#[]⟩,.int .u32 0,.int .u16 0,.int .u16 0,.int .u16 0,.int .u16 0,.int .u16 0,.int .u16 0,.int .u16 0,.int .u16 0] 28)
 have hr1:=(hr.below hB0).mono hB0.size
 obtain⟨w1,hw1⟩:∃ w1,w.alloc (.cells #[.int .u8 0,.string ⟨#[]⟩,.int .u32 0,.int .u16 0,.int .u16 0,.int .u16 0,.int .u16 0,.int .u16 0,.int .u16 0,.int .u16 0,.int .u16 0] 28)=w1:=⟨_,rfl⟩
 rw[hw1]at hB0 hr1
 have HCO:=Lib.hid (Contains_fbh l A n c w1 hn (by omega) hr1)
 have HEN:=Lib.hid (fun W (h:Below w1.heap.size w1 W)=>PEncode_any l A n c W hn hl ((hr1.below h).mono h.size))
 have HB0:=Lib.hid hB0
 have HBL:Hid (∀ W,Below w1.heap.size w1 W->W.heap[w.heap.size]? = some (.cells #[.int .u8 0,.string ⟨#[]⟩,.int .u32 0,.int .u16 0,.int .u16 0,.int .u16 0,.int .u16 0,.int .u16 0,.int .u16 0,.int .u16 0,.int .u16 0] 28 (0,0))):=Lib.hid (fun W h=>by
  have e:w1.heap[w.heap.size]? = some (.cells #[.int .u8 0,.string ⟨#[]⟩,.int .u32 0,.int .u16 0,.int .u16 0,.int .u16 0,.int .u16 0,.int .u16 0,.int .u16 0,.int .u16 0,.int .u16 0] 28 (0,0)):=by rw[<-hw1];exact World.alloc_heap_new w _
  exact (h.block _ (Array.getElem?_eq_some_iff.1 e).1).trans e)
 obtain⟨q,hq⟩:∃ q,l.any forb=q:=⟨_,rfl⟩
 rw[hq]at HCO
 have HQ:=Lib.hid hq
 unfold EncR at HEN
 obtain⟨s,hs⟩:∃ s,strOfNums (penc l)=s:=⟨_,rfl⟩
 rw[hs]at HEN
 have HS:=Lib.hid hs
 clear hq hs hr hr1 hn hB0
 go_enter Tryz.func49,Tryz.ntmps49
 go_upto_region 1 with fail
 clear hw1
 cases q with
 | true =>
  go_upto_region 2 with(first|(go_at_call 90;refine HCO.out.mono ?_;rintro e w2 ⟨rfl,hB2⟩)|fail)
  have hb:=HBL.out w2 hB2
  have e0:w2.cell? ⟨w.heap.size,0,none⟩=some (.int .u8 0):=by simp[World.cell?,hb]
  have f0:w2.frozen? ⟨w.heap.size,0,none⟩=false:=by simp[World.frozen?,hb]
  have e1:w2.cell? ⟨w.heap.size,1,none⟩=some (.string ⟨#[]⟩):=by simp[World.cell?,hb]
  have f1:w2.frozen? ⟨w.heap.size,1,none⟩=false:=by simp[World.frozen?,hb]
  have e2:w2.cell? ⟨w.heap.size,2,none⟩=some (.int .u32 0):=by simp[World.cell?,hb]
  have f2:w2.frozen? ⟨w.heap.size,2,none⟩=false:=by simp[World.frozen?,hb]
  have e3:w2.cell? ⟨w.heap.size,3,none⟩=some (.int .u16 0):=by simp[World.cell?,hb]
  have f3:w2.frozen? ⟨w.heap.size,3,none⟩=false:=by simp[World.frozen?,hb]
  have e4:w2.cell? ⟨w.heap.size,4,none⟩=some (.int .u16 0):=by simp[World.cell?,hb]
  have f4:w2.frozen? ⟨w.heap.size,4,none⟩=false:=by simp[World.frozen?,hb]
  have e5:w2.cell? ⟨w.heap.size,5,none⟩=some (.int .u16 0):=by simp[World.cell?,hb]
  have f5:w2.frozen? ⟨w.heap.size,5,none⟩=false:=by simp[World.frozen?,hb]
  have e6:w2.cell? ⟨w.heap.size,6,none⟩=some (.int .u16 0):=by simp[World.cell?,hb]
  have f6:w2.frozen? ⟨w.heap.size,6,none⟩=false:=by simp[World.frozen?,hb]
  have e7:w2.cell? ⟨w.heap.size,7,none⟩=some (.int .u16 0):=by simp[World.cell?,hb]
  have f7:w2.frozen? ⟨w.heap.size,7,none⟩=false:=by simp[World.frozen?,hb]
  have e8:w2.cell? ⟨w.heap.size,8,none⟩=some (.int .u16 0):=by simp[World.cell?,hb]
  have f8:w2.frozen? ⟨w.heap.size,8,none⟩=false:=by simp[World.frozen?,hb]
  have e9:w2.cell? ⟨w.heap.size,9,none⟩=some (.int .u16 0):=by simp[World.cell?,hb]
  have f9:w2.frozen? ⟨w.heap.size,9,none⟩=false:=by simp[World.frozen?,hb]
  have e10:w2.cell? ⟨w.heap.size,10,none⟩=some (.int .u16 0):=by simp[World.cell?,hb]
  have f10:w2.frozen? ⟨w.heap.size,10,none⟩=false:=by simp[World.frozen?,hb]
  go_wp2_with fail
  refine bodyPost_ret (v:=.tuple #[hV 0 ⟨#[]⟩,.int .i64 32]) (Sx.results_two (u:=3) Tryz.results49 rfl ?_ rfl) rfl ?_
  ·go_simp
   done
  ·have HBX:=upB HB0.out hB2
   exact opR_no HQ.out ((((((((((((HBX).setCell (Nat.le_refl _) _).setCell (Nat.le_refl _) _).setCell (Nat.le_refl _) _).setCell (Nat.le_refl _) _).setCell (Nat.le_refl _) _).setCell (Nat.le_refl _) _).setCell (Nat.le_refl _) _).setCell (Nat.le_refl _) _).setCell (Nat.le_refl _) _).setCell (Nat.le_refl _) _).setCell (Nat.le_refl _) _)
 | false =>
  go_upto_region 3 with(first|(go_at_call 90;refine HCO.out.mono ?_;rintro e w2 ⟨rfl,hB2⟩)|fail)
  go_upto_region 4 with(first|(go_at_call 68;refine (HEN.out _ hB2).mono ?_;rintro e w3 ⟨rfl,hB3⟩)|fail)
  have hb:=HBL.out w3 (upB hB2 hB3)
  have e0:w3.cell? ⟨w.heap.size,0,none⟩=some (.int .u8 0):=by simp[World.cell?,hb]
  have f0:w3.frozen? ⟨w.heap.size,0,none⟩=false:=by simp[World.frozen?,hb]
  have e1:w3.cell? ⟨w.heap.size,1,none⟩=some (.string ⟨#[]⟩):=by simp[World.cell?,hb]
  have f1:w3.frozen? ⟨w.heap.size,1,none⟩=false:=by simp[World.frozen?,hb]
  have e2:w3.cell? ⟨w.heap.size,2,none⟩=some (.int .u32 0):=by simp[World.cell?,hb]
  have f2:w3.frozen? ⟨w.heap.size,2,none⟩=false:=by simp[World.frozen?,hb]
  have e3:w3.cell? ⟨w.heap.size,3,none⟩=some (.int .u16 0):=by simp[World.cell?,hb]
  have f3:w3.frozen? ⟨w.heap.size,3,none⟩=false:=by simp[World.frozen?,hb]
  have e4:w3.cell? ⟨w.heap.size,4,none⟩=some (.int .u16 0):=by simp[World.cell?,hb]
  have f4:w3.frozen? ⟨w.heap.size,4,none⟩=false:=by simp[World.frozen?,hb]
  have e5:w3.cell? ⟨w.heap.size,5,none⟩=some (.int .u16 0):=by simp[World.cell?,hb]
  have f5:w3.frozen? ⟨w.heap.size,5,none⟩=false:=by simp[World.frozen?,hb]
  have e6:w3.cell? ⟨w.heap.size,6,none⟩=some (.int .u16 0):=by simp[World.cell?,hb]
  have f6:w3.frozen? ⟨w.heap.size,6,none⟩=false:=by simp[World.frozen?,hb]
  have e7:w3.cell? ⟨w.heap.size,7,none⟩=some (.int .u16 0):=by simp[World.cell?,hb]
  have f7:w3.frozen? ⟨w.heap.size,7,none⟩=false:=by simp[World.frozen?,hb]
  have e8:w3.cell? ⟨w.heap.size,8,none⟩=some (.int .u16 0):=by simp[World.cell?,hb]
  have f8:w3.frozen? ⟨w.heap.size,8,none⟩=false:=by simp[World.frozen?,hb]
  have e9:w3.cell? ⟨w.heap.size,9,none⟩=some (.int .u16 0):=by simp[World.cell?,hb]
  have f9:w3.frozen? ⟨w.heap.size,9,none⟩=false:=by simp[World.frozen?,hb]
  have e10:w3.cell? ⟨w.heap.size,10,none⟩=some (.int .u16 0):=by simp[World.cell?,hb]
  have f10:w3.frozen? ⟨w.heap.size,10,none⟩=false:=by simp[World.frozen?,hb]
  go_wp2_with fail
  refine bodyPost_ret (v:=.tuple #[hV 5 s,.int .i64 0]) (Sx.results_two (u:=3) Tryz.results49 rfl ?_ rfl) rfl ?_
  ·go_simp
   done
  ·have HBX:=upB HB0.out (upB hB2 hB3)
   exact opR_yes HQ.out HS.out.symm ((((((((((((HBX).setCell (Nat.le_refl _) _).setCell (Nat.le_refl _) _).setCell (Nat.le_refl _) _).setCell (Nat.le_refl _) _).setCell (Nat.le_refl _) _).setCell (Nat.le_refl _) _).setCell (Nat.le_refl _) _).setCell (Nat.le_refl _) _).setCell (Nat.le_refl _) _).setCell (Nat.le_refl _) _).setCell (Nat.le_refl _) _)
end Go.Proofs.YtkibdkfdffkkfaaGreatDoor.Hst
namespace Go.Proofs.YtkibdkfdffkkfaaGreatDoor.Utf
def shift (d:Nat) (x:Cd):Cd:=(x.1,x.2.1+d,x.2.2.1+d,x.2.2.2)
theorem codesF_shift(d:Nat):∀ (f p:Nat) (bs:List Int),codesF f (p+d) bs=(codesF f p bs).map (shift d)
 | 0,_,_=>rfl
 | f + 1, p, bs => by
  unfold codesF
  split
  ·rfl
  ·have ih:=codesF_shift d f (p+(firstC bs).2.1) (bs.drop (firstC bs).2.1)
   rw[List.map_cons,<-ih]
   simp only[shift]
   rw[show p+d+(firstC bs).2.1=p+(firstC bs).2.1+d from by omega]
theorem codesAt_shift(bs:List Int)(k:Nat):codesAt bs k=(codes (bs.drop k)).map (shift k):=by
 have h:=codesF_shift k (bs.length-k) 0 (bs.drop k)
 unfold codesAt codes
 rw[List.length_drop,<-h,Nat.zero_add]
theorem codes_cons{bs:List Int}(h:bs≠[]) :
  codes bs=((firstC bs).1,0,(firstC bs).2.1,(firstC bs).2.2)::(codes (bs.drop (firstC bs).2.1)).map (shift (firstC bs).2.1):=by
 have hl:0<bs.length:=by
  cases bs with
  | nil=>exact absurd rfl h
  | cons _ _=>simp
 rw[codes_eq,codesAt_step bs hl]
 simp only[List.drop_zero,Nat.zero_add]
 rw[codesAt_shift]
theorem dec_cons{bs:List Int}(h:bs≠[]):dec bs=(firstC bs).1::dec (bs.drop (firstC bs).2.1):=by
 unfold dec
 rw[codes_cons h,List.map_cons,List.map_map]
 rfl
theorem b1_ne(r:Int):b1 r≠[]:=by
 intro h
 have:=b1_len r
 rw[h]at this
 simp at this
theorem dec_enc:∀ l:List Int,dec (enc l)=l.map fixR
 | []=>rfl
 | r :: l => by
  have hne:enc (r::l)≠[]:=by rw[enc_cons];intro h;exact b1_ne _ (List.append_eq_nil_iff.1 h).1
  have hf:firstC (enc (r::l))=(fixR r,(b1 (fixR r)).length,true):=by rw[enc_cons];exact first_enc (enc l) (sca_fix r)
  rw[dec_cons hne,hf,List.map_cons]
  simp only
  rw[enc_cons]
  show fixR r::dec ((b1 (fixR r)++enc l).drop (b1 (fixR r)).length)=_
  rw[List.drop_left,dec_enc l]
end Go.Proofs.YtkibdkfdffkkfaaGreatDoor.Utf
