import Derived.Test.YtkibdkfdffkkfaaGreatDoorPk16
import Derived.Deep.RegionHeld3
import Derived.Laws.CopyOwn
set_option maxRecDepth 100000
set_option maxHeartbeats 8000000
namespace Go.Proofs.YtkibdkfdffkkfaaGreatDoor
open Go.RowKit Ucd
theorem bst_col(l:List UInt8)(a b:Nat):(bst l).extract a b=bst (col l a (b-a)):=Lib.extract_mk l a b
theorem col_len(l:List UInt8)(a n:Nat)(h:n<=52):(col l a n).length<=1000:=by
 unfold col
 rw[List.length_take]
 omega
theorem first_gen(l:List UInt8)(w:World)(hl:l.length=52)(hn:isNum 16 (dcol l 0 4)=true) :
  Calls Tryz.prog 286 #[.string (bst l)] w fun e w'=>e = .returned (.int .i32 (num 16 0 (dcol l 0 4)))/\Below w.heap.size w w':=by
 have hs:(bst l).size=52:=by rw[bst_size,hl]
 have hx:(bst l).extract 0 4=bst (col l 0 4):=bst_col l 0 4
 have HN:=Lib.hid (number16 (col l 0 4) w (col_len _ _ _ (by omega)) hn)
 have hb:=num_small (by decide) hn
 change Hid (Calls _ _ _ _ fun e w'=>e = .returned (.int .i64 (num 16 0 (dcol l 0 4):Nat))/\_) at HN
 clear hl
 obtain⟨t,ht⟩:∃ t,bst l=t:=⟨_,rfl⟩
 rw[ht]at hs hx ⊢
 clear ht
 obtain⟨n,hn'⟩:∃ n:Int,n=(num 16 0 (dcol l 0 4):Nat):=⟨_,rfl⟩
 rw[<-hn']at HN ⊢
 have n0:0<=n:=by omega
 have n1:n<65536:=by omega
 clear hn hb hn'
 go_enter Tryz.func286,Tryz.ntmps286
 go_wp2_with(go_at_call 322;((with_reducible refine (Hid.out HN).mono ?_);rintro e w' ⟨rfl,hb⟩))
 go_ret
 exact⟨rfl,hb⟩
theorem last_gen(l:List UInt8)(w:World)(hl:l.length=52)(hn:isNum 16 (dcol l 5 4)=true) :
  Calls Tryz.prog 284 #[.string (bst l)] w fun e w'=>e = .returned (.int .i32 (num 16 0 (dcol l 5 4)))/\Below w.heap.size w w':=by
 have hs:(bst l).size=52:=by rw[bst_size,hl]
 have hx:(bst l).extract 5 9=bst (col l 5 4):=bst_col l 5 9
 have HN:=Lib.hid (number16 (col l 5 4) w (col_len _ _ _ (by omega)) hn)
 have hb:=num_small (by decide) hn
 change Hid (Calls _ _ _ _ fun e w'=>e = .returned (.int .i64 (num 16 0 (dcol l 5 4):Nat))/\_) at HN
 clear hl
 obtain⟨t,ht⟩:∃ t,bst l=t:=⟨_,rfl⟩
 rw[ht]at hs hx ⊢
 clear ht
 obtain⟨n,hn'⟩:∃ n:Int,n=(num 16 0 (dcol l 5 4):Nat):=⟨_,rfl⟩
 rw[<-hn']at HN ⊢
 have n0:0<=n:=by omega
 have n1:n<65536:=by omega
 clear hn hb hn'
 go_enter Tryz.func284,Tryz.ntmps284
 go_wp2_with(go_at_call 322;((with_reducible refine (Hid.out HN).mono ?_);rintro e w' ⟨rfl,hb⟩))
 go_ret
 exact⟨rfl,hb⟩
def PS (w w':World):Prop:=Below w.heap.size w w'/\∃ cs,cs.size=7/\w'.heap[w.heap.size]? = some (.cells cs 281 (0,0))
theorem PS.go{w a b:World}(h:PS w a)(hb:Below a.heap.size a b):PS w b:=by
 obtain⟨h1,cs,h2,h3⟩:=h
 exact⟨h1.trans (hb.mono h1.size),cs,h2,(hb.block _ (Array.getElem?_eq_some_iff.1 h3).1).trans h3⟩
theorem PS.start(w:World):PS w (w.alloc (.cells #[.int .u8 0,.int .u8 0,.int .u8 0,.int .u8 0,.int .u8 0,.int .u8 0,.int .u8 0] 281)).drew :=
 ⟨((Below.refl _ w).alloc (Nat.le_refl _) _).drew,_,rfl,World.alloc_heap_new w _⟩
theorem PS.set{w a:World}(h:PS w a)(k:Nat)(v:Value):PS w (a.setCell ⟨w.heap.size,k,none⟩ v):=by
 obtain⟨h1,old,h2,h3⟩:=h
 rw[setCell_eq_setRow a _ k old _ _ v h3]
 exact⟨below_setRow h1 (Nat.le_refl _) _,_,by simpa using h2,setRow_heap a _ old _ _ _ h3⟩
def cc (w':World) (N k:Nat):Value:=(w'.cell? ⟨N,k,none⟩).getD undef
theorem PS.cell{w a:World}(h:PS w a)(k:Nat)(hk:k<7):a.cell? ⟨w.heap.size,k,none⟩=some (cc a w.heap.size k):=by
 obtain⟨h1,old,h2,h3⟩:=h
 unfold cc
 simp only[World.cell?,h3]
 have:k<old.size:=by omega
 simp[this]
theorem PS.frozen{w a:World}(h:PS w a)(k:Nat):a.frozen? ⟨w.heap.size,k,none⟩=false:=by
 obtain⟨h1,old,h2,h3⟩:=h
 simp[World.frozen?,h3]
theorem prop_gen(l:List UInt8)(w:World)(hl:l.length=52)(hk:readOk l=true) :
  Calls Tryz.prog 288 #[.string (bst l)] w fun e w'=>e = .returned (.agg #[.int .u8 (categoryF (ncol l 10 7):Nat),.int .u8 (bidiF (ncol l 18 3):Nat),.int .u8 (joinF (ncol l 22 5):Nat),.int .u8 (num 10 0 (dcol l 28 3):Nat),.int .u8 (scriptF (ncol l 32 10):Nat),.int .u8 (digitsF (ncol l 43 6):Nat),.int .u8 (num 10 0 (dcol l 50 1):Nat)])/\Below w.heap.size w w':=by
 unfold readOk at hk
 simp only[Bool.and_eq_true,decide_eq_true_eq]at hk
 obtain⟨⟨⟨⟨⟨h16a,h16b⟩,h10a⟩,h10b⟩,hca⟩,hcb⟩:=hk
 have hs:(bst l).size=52:=by rw[bst_size,hl]
 have x1:(bst l).extract 10 17=bst (col l 10 7):=bst_col l 10 17
 have x2:(bst l).extract 18 21=bst (col l 18 3):=bst_col l 18 21
 have x3:(bst l).extract 22 27=bst (col l 22 5):=bst_col l 22 27
 have x4:(bst l).extract 28 31=bst (col l 28 3):=bst_col l 28 31
 have x5:(bst l).extract 32 42=bst (col l 32 10):=bst_col l 32 42
 have x6:(bst l).extract 43 49=bst (col l 43 6):=bst_col l 43 49
 have x7:(bst l).extract 50 51=bst (col l 50 1):=bst_col l 50 51
 have c1:=col_len l 10 7 (by omega)
 have c2:=col_len l 18 3 (by omega)
 have c3:=col_len l 22 5 (by omega)
 have c4:=col_len l 28 3 (by omega)
 have c5:=col_len l 32 10 (by omega)
 have c6:=col_len l 43 6 (by omega)
 have c7:=col_len l 50 1 (by omega)
 have k4:Lib.trimLeftB (col l 28 3) 32=dcol l 28 3:=rfl
 have k7:Lib.trimLeftB (col l 50 1) 32=dcol l 50 1:=rfl
 have N4:=fun W=>number10 (col l 28 3) W c4 h10a
 have N7:=fun W=>number10 (col l 50 1) W c7 h10b
 rw[k4]at N4
 rw[k7]at N7
 have HN4:=Lib.hid N4
 have HN7:=Lib.hid N7
 have w4:IntKind.u8.wrap ((num 10 0 (dcol l 28 3):Nat):Int)=(num 10 0 (dcol l 28 3):Nat):=by simp[IntKind.wrap,IntKind.bits,IntKind.signed];omega
 have w7:IntKind.u8.wrap ((num 10 0 (dcol l 50 1):Nat):Int)=(num 10 0 (dcol l 50 1):Nat):=by simp[IntKind.wrap,IntKind.bits,IntKind.signed];omega
 obtain⟨t,ht⟩:∃ t,bst l=t:=⟨_,rfl⟩
 rw[ht]at hs x1 x2 x3 x4 x5 x6 x7 ⊢
 clear ht N4 N7 k4 k7 h16a h16b h10a h10b hl
 go_enter Tryz.func288,Tryz.ntmps288
 go_wp2_with fail
 go_region_held3 (fun _=>True) (trivial) (first
  | (go_at_call 324;refine (name_any _ _ ‹_›).mono ?_;rintro e w' ⟨rfl,rfl⟩)
  | (go_at_call 323;refine (category_any _ _).mono ?_;rintro e w' ⟨rfl,rfl⟩)
  | (go_at_call 325;refine (bidi_any _ _).mono ?_;rintro e w' ⟨rfl,rfl⟩)
  | (go_at_call 326;refine (join_any _ _).mono ?_;rintro e w' ⟨rfl,rfl⟩)
  | (go_at_call 327;refine (script_any _ _).mono ?_;rintro e w' ⟨rfl,rfl⟩)
  | (go_at_call 328;refine (digits_any _ _).mono ?_;rintro e w' ⟨rfl,rfl⟩)
  | (go_at_call_of 322 (col l 28 3);refine ((Hid.out HN4) _).mono ?_;rintro e w1 ⟨rfl,hb⟩;have hP1:PS w w1:=PS.go (PS.start w) hb;clear hb)
  | (go_at_call_of 322 (col l 50 1);refine ((Hid.out HN7) _).mono ?_;rintro e w2 ⟨rfl,hb⟩;have hP2:PS w w2:=PS.go hP1 hb;clear hb hP1;have p0:=hP2.cell 0 (by omega);have p1:=hP2.cell 1 (by omega);have p2:=hP2.cell 2 (by omega);have p3:=hP2.cell 3 (by omega);have p4:=hP2.cell 4 (by omega);have p5:=hP2.cell 5 (by omega);have p6:=hP2.cell 6 (by omega);have f0:=hP2.frozen 0;have f1:=hP2.frozen 1;have f2:=hP2.frozen 2;have f3:=hP2.frozen 3;have f4:=hP2.frozen 4;have f5:=hP2.frozen 5;have f6:=hP2.frozen 6))
 go_wp2
 refine bodyPost_ret (v:=.agg #[.int .u8 (categoryF (ncol l 10 7):Nat),.int .u8 (bidiF (ncol l 18 3):Nat),.int .u8 (joinF (ncol l 22 5):Nat),.int .u8 (num 10 0 (dcol l 28 3):Nat),.int .u8 (scriptF (ncol l 32 10):Nat),.int .u8 (digitsF (ncol l 43 6):Nat),.int .u8 (num 10 0 (dcol l 50 1):Nat)]) ?_ rfl ⟨rfl, ?_⟩
 ·simp[results,Tryz.results288,go_sem,p0,p1,p2,p3,p4,p5,p6,ncol]
 ·exact (((((((PS.set hP2 _ _).set _ _).set _ _).set _ _).set _ _).set _ _).set _ _).1
theorem first_at(i:Nat)(w:World)(hi:i<166) :
  Calls Tryz.prog 286 #[.string (bst (rowL i))] w fun e w'=>e = .returned (.int .i32 (fr i))/\Below w.heap.size w w':=by
 have h:=(read_at hi).2
 have hk:=(read_at hi).1
 unfold readOk at hk
 simp only[Bool.and_eq_true,decide_eq_true_eq]at hk
 have:=first_gen (rowL i) w (rowL_len i hi) hk.1.1.1.1.1
 rw[show ((num 16 0 (dcol (rowL i) 0 4):Nat):Int)=fr i from congrArg Prod.fst h]at this
 exact this
theorem last_at(i:Nat)(w:World)(hi:i<166) :
  Calls Tryz.prog 284 #[.string (bst (rowL i))] w fun e w'=>e = .returned (.int .i32 (to i))/\Below w.heap.size w w':=by
 have h:=(read_at hi).2
 have hk:=(read_at hi).1
 unfold readOk at hk
 simp only[Bool.and_eq_true,decide_eq_true_eq]at hk
 have:=last_gen (rowL i) w (rowL_len i hi) hk.1.1.1.1.2
 rw[show ((num 16 0 (dcol (rowL i) 5 4):Nat):Int)=to i from congrArg (fun x=>x.2.1) h]at this
 exact this
abbrev pv (p:List Int):Value:=.agg #[.int .u8 (g p 0),.int .u8 (g p 1),.int .u8 (g p 2),.int .u8 (g p 3),.int .u8 (g p 4),.int .u8 (g p 5),.int .u8 (g p 6)]
theorem prop_at(i:Nat)(w:World)(hi:i<166) :
  Calls Tryz.prog 288 #[.string (bst (rowL i))] w fun e w'=>e = .returned (pv (pr i))/\Below w.heap.size w w':=by
 have h:=congrArg (fun x=>x.2.2) (read_at hi).2
 have:=prop_gen (rowL i) w (rowL_len i hi) (read_at hi).1
 have e:pr i=[((categoryF (ncol (rowL i) 10 7):Nat):Int),((bidiF (ncol (rowL i) 18 3):Nat):Int),((joinF (ncol (rowL i) 22 5):Nat):Int),((num 10 0 (dcol (rowL i) 28 3):Nat):Int),((scriptF (ncol (rowL i) 32 10):Nat):Int),((digitsF (ncol (rowL i) 43 6):Nat):Int),((num 10 0 (dcol (rowL i) 50 1):Nat):Int)]:=h.symm
 rw[e]
 exact this
theorem Of1_any(i:Nat)(B:Nat)(r:Int)(w:World)(hi:i<166)(hB:Boxed w B 21 (.int .i32 r)) :
  Calls Tryz.prog 283 #[.int .i64 i,.pointer (some ⟨B,0,none⟩)] w fun e w'=>e = .returned (.bool (decide (r<=to i)))/\Below w.heap.size w w':=by
 have hc:=hB.cell
 have hlt:=hB.lt
 have htb:=fr_bd hi
 go_enter Tryz.func283,Tryz.ntmps283
 go_wp2_with fail
 go_region_held3 (fun w'=>w'.cell? ⟨B,0,none⟩=some (.int .i32 r)) (first|assumption|exact hc|exact hc1) (first
  | (go_at_call 285;refine (row_any i _ hi).mono ?_;rintro e w' ⟨rfl,rfl⟩)
  | (go_at_call 284;refine (last_at i _ hi).mono ?_;rintro e w1 ⟨rfl,hb⟩;have hc1:w1.cell? ⟨B,0,none⟩=some (.int .i32 r):=(hb.cell (p:=⟨B,0,none⟩) hlt).trans hc))
 go_wp2
 go_ret
 exact⟨rfl,⟨hb.os,hb.tape,hb.output,hb.size,hb.block⟩⟩
theorem box_go{W W':World}{B:Nat}{t:TypeId}{v:Value}(h:Boxed W B t v)(hb:Below W.heap.size W W'):Boxed W' B t v:=(hb.block B h.lt).trans h
theorem Of1_at(h:Int)(i:Nat)(e:h=(i:Int))(B:Nat)(r:Int)(w:World)(hi:i<166)(b:Bool)(hbo:decide (r<=to i)=b)(hB:Boxed w B 21 (.int .i32 r)) :
  Calls Tryz.prog 283 #[.int .i64 h,.pointer (some ⟨B,0,none⟩)] w fun e w'=>e = .returned (.bool b)/\Below w.heap.size w w':=by
 subst e hbo
 exact Of1_any i B r w hi hB
def SR (r:Int) (B:Nat) (w:World) (vi vj:Value) (wr:World):Prop :=
 ∃ i j:Nat,vi = .int .i64 i/\vj = .int .i64 j/\i<=j/\j<=166/\(i=0∨to (i-1)<r)/\(j=166∨r<=to j)/\Boxed wr B 21 (.int .i32 r)/\Below w.heap.size w wr
theorem Search_any(B:Nat)(r:Int)(w:World)(hB:Boxed w B 21 (.int .i32 r)) :
  Calls Tryz.prog 282 #[.int .i64 166,.func (.func 283) #[] #[.pointer (some ⟨B,0,none⟩)]] w fun e w'=>e = .returned (.int .i64 (idx r))/\Below w.heap.size w w':=by
 go_enter Tryz.func282,Tryz.ntmps282
 go_wp2
 go_loopw [5,6] (fun i j wr=>SR r B w i j wr) (fun i j _=>(intOf j).toNat-(intOf i).toNat)
 case atStart=>exact⟨0,166,rfl,rfl,by omega,by omega,.inl rfl,.inl rfl,hB,Below.refl _ _⟩
 case round =>
  obtain⟨i,j,rfl,rfl,hij,hj,h1,h2,hb,hbel⟩:=hrel
  by_cases hlt:i<j
  ·obtain⟨m,hm⟩:∃ m,m=(i+j)/2:=⟨_,rfl⟩
   have hmi:i<=m:=by omega
   have hmj:m<j:=by omega
   have hm6:m<166:=by omega
   have hcast:((i:Int)+(j:Int))/2=(m:Int):=by omega
   have HC:=Lib.hid hcast
   have H1:=Lib.hid h1
   have H2:=Lib.hid h2
   clear hm hcast h1 h2
   by_cases hr:r<=to m
   ·go_wp2_with(go_at_call 283;refine (Of1_at _ m HC.out B r _ hm6 true (decide_eq_true hr) hb).mono ?_;rintro e w' ⟨rfl,hb1⟩)
    go_roundw
    case rel=>exact⟨i,m,rfl,congrArg _ HC.out,hmi,by omega,H1.out,.inr hr,box_go hb hb1,hbel.trans (hb1.mono hbel.size)⟩
    case measure=>simp[intOf];have:=HC.out;omega
   ·go_wp2_with(go_at_call 283;refine (Of1_at _ m HC.out B r _ hm6 false (decide_eq_false hr) hb).mono ?_;rintro e w' ⟨rfl,hb1⟩)
    go_roundw
    case rel=>exact⟨m+1,j,by rw[HC.out];go_num,rfl,by omega,hj,.inr (by rw[Nat.add_sub_cancel];omega),H2.out,box_go hb hb1,hbel.trans (hb1.mono hbel.size)⟩
    case measure=>simp[intOf];have:=HC.out;omega
  ·have:i=j:=by omega
   subst this
   have HI:Hid (idx r=i):=Lib.hid (idx_is hj h1 h2)
   clear h1 h2
   go_wp2
   go_ret
   exact⟨ret_int (by rw[HI.out]),hbel⟩
theorem unassigned_any(w:World):Calls Tryz.prog 287 #[] w fun e w'=>e = .returned (pv un)/\Below w.heap.size w w':=by
 go_enter Tryz.func287,Tryz.ntmps287
 go_wp2
 refine bodyPost_ret (v:=pv un) ?_ rfl ⟨rfl, ?_⟩
 ·simp[results,Tryz.results287,go_sem,g,un]
 ·exact (Below.refl _ _).alloc (Nat.le_refl _) _
def Blk7 (w:World) (B:Nat):Prop:=∃ cs,cs.size=7/\w.heap[B]? = some (.cells cs 281 (0,0))
theorem Blk7.lt{w:World}{B:Nat}(h:Blk7 w B):B<w.heap.size:=by
 obtain⟨cs,_,h3⟩:=h
 exact (Array.getElem?_eq_some_iff.1 h3).1
theorem Blk7.go{a b:World}{B:Nat}(h:Blk7 a B)(hb:Below a.heap.size a b):Blk7 b B:=by
 have hl:=h.lt
 obtain⟨cs,h2,h3⟩:=h
 exact⟨cs,h2,(hb.block _ hl).trans h3⟩
theorem Blk7.cell{a:World}{B:Nat}(h:Blk7 a B)(k:Nat)(hk:k<7):a.cell? ⟨B,k,none⟩=some (cc a B k):=by
 obtain⟨old,h2,h3⟩:=h
 unfold cc
 simp only[World.cell?,h3]
 have:k<old.size:=by omega
 simp[this]
theorem Blk7.frozen{a:World}{B:Nat}(h:Blk7 a B)(k:Nat):a.frozen? ⟨B,k,none⟩=false:=by
 obtain⟨old,h2,h3⟩:=h
 simp[World.frozen?,h3]
theorem Blk7.new(w:World):Blk7 (w.alloc (.cells #[.int .u8 0,.int .u8 0,.int .u8 0,.int .u8 0,.int .u8 0,.int .u8 0,.int .u8 0] 281)) w.heap.size:=⟨_,rfl,World.alloc_heap_new w _⟩
theorem below_of_drew{w wA:World}(h:Below w.drew.heap.size w.drew wA):Below w.heap.size w wA:=⟨h.os,h.tape,h.output,h.size,h.block⟩
theorem below_set7{w w2:World}{B:Nat}(h:Below w.heap.size w w2)(hB:w.heap.size<=B)(v0 v1 v2 v3 v4 v5 v6:Value) :
  Below w.heap.size w (((((((w2.setCell ⟨B,0,none⟩ v0).setCell ⟨B,1,none⟩ v1).setCell ⟨B,2,none⟩ v2).setCell ⟨B,3,none⟩ v3).setCell ⟨B,4,none⟩ v4).setCell ⟨B,5,none⟩ v5).setCell ⟨B,6,none⟩ v6) :=
 ((((((h.setCell (p:=⟨B,0,none⟩) hB _).setCell (p:=⟨B,1,none⟩) hB _).setCell (p:=⟨B,2,none⟩) hB _).setCell (p:=⟨B,3,none⟩) hB _).setCell (p:=⟨B,4,none⟩) hB _).setCell (p:=⟨B,5,none⟩) hB _).setCell (p:=⟨B,6,none⟩) hB _
theorem Of_any(r:Int)(w:World):Calls Tryz.prog 250 #[.int .i32 r] w fun e w'=>e = .returned (pv (of r))/\Below w.heap.size w w':=by
 have hle:=idx_le r
 have bR:=(Boxed.new w 21 (.int .i32 r)).alloc (.cells #[.int .u8 0,.int .u8 0,.int .u8 0,.int .u8 0,.int .u8 0,.int .u8 0,.int .u8 0] 281)
 have bP:=Blk7.new (w.alloc (.cells #[.int .i32 r] 21))
 rw[World.size_alloc]at bP
 have hB0:Below w.heap.size w ((w.alloc (.cells #[.int .i32 r] 21)).alloc (.cells #[.int .u8 0,.int .u8 0,.int .u8 0,.int .u8 0,.int .u8 0,.int .u8 0,.int .u8 0] 281)):=((Below.refl _ w).alloc (Nat.le_refl _) _).alloc (by simp) _
 go_enter Tryz.func250,Tryz.ntmps250
 go_wp2_with(go_at_call 282;refine (Search_any w.heap.size r _ bR).mono ?_;rintro e w1 ⟨rfl,hb1⟩)
 have bR1:=box_go bR hb1
 have bP1:=bP.go hb1
 have hB1:=hB0.trans (hb1.mono hB0.size)
 clear bR bP hB0 hb1
 have hcR:=bR1.cell
 have hlR:=bR1.lt
 rcases Nat.lt_or_ge (idx r) 166 with hi|hi
 ·have hne:((idx r:Int)==166)=false:=by simp;omega
  have hne':¬ (idx r:Int)=166:=by omega
  have hfb:=fr_bd hi
  obtain⟨m,hm⟩:∃ m,m=idx r:=⟨_,rfl⟩
  rw[<-hm]at hi hne hne' hfb
  have HM:=Lib.hid hm
  rw[<-hm]
  clear hm hle
  by_cases hf:fr m<=r
  ·have HO:Hid (of r=pr m):=Lib.hid (by unfold of inTab;rw[<-HM.out,decide_eq_true hi,decide_eq_true hf];rfl)
   go_region_held3 (fun w'=>w'.cell? ⟨w.heap.size,0,none⟩=some (.int .i32 r)) (first|assumption|exact hcR|exact hc2) (first
    | (go_at_call 285;refine (row_any m _ hi).mono ?_;rintro e w' ⟨rfl,rfl⟩)
    | (go_at_call 286;refine (first_at m _ hi).mono ?_;rintro e w2 ⟨rfl,hb2⟩;have hc2:w2.cell? ⟨w.heap.size,0,none⟩=some (.int .i32 r):=(hb2.cell (p:=⟨w.heap.size,0,none⟩) hlR).trans hcR))
   have bP2:=bP1.go (below_of_drew hb2)
   have hB2:=hB1.trans ((below_of_drew hb2).mono hB1.size)
   have hd:decide (r<fr m)=false:=decide_eq_false (by omega)
   clear bP1 hB1 bR1 hb2 hc2
   go_wp2_with(first
    | (go_at_call 285;refine (row_any m _ hi).mono ?_;rintro e w' ⟨rfl,rfl⟩)
    | (go_at_call 288;refine (prop_at m _ hi).mono ?_;rintro e w3 ⟨rfl,hb3⟩;have bP3:=bP2.go hb3;have p0:=bP3.cell 0 (by omega);have p1:=bP3.cell 1 (by omega);have p2:=bP3.cell 2 (by omega);have p3:=bP3.cell 3 (by omega);have p4:=bP3.cell 4 (by omega);have p5:=bP3.cell 5 (by omega);have p6:=bP3.cell 6 (by omega);have f0:=bP3.frozen 0;have f1:=bP3.frozen 1;have f2:=bP3.frozen 2;have f3:=bP3.frozen 3;have f4:=bP3.frozen 4;have f5:=bP3.frozen 5;have f6:=bP3.frozen 6))
   refine bodyPost_ret (v:=pv (pr m)) ?_ rfl ⟨by rw[HO.out], ?_⟩
   ·simp[results,Tryz.results250,go_sem,p0,p1,p2,p3,p4,p5,p6]
   ·exact below_set7 (hB2.trans (hb3.mono hB2.size)) (Nat.le_succ _) _ _ _ _ _ _ _
  ·have HO:Hid (of r=un):=Lib.hid (by unfold of inTab;rw[<-HM.out,decide_eq_true hi,decide_eq_false hf];rfl)
   go_region_held3 (fun w'=>w'.cell? ⟨w.heap.size,0,none⟩=some (.int .i32 r)) (first|assumption|exact hcR|exact hc2) (first
    | (go_at_call 285;refine (row_any m _ hi).mono ?_;rintro e w' ⟨rfl,rfl⟩)
    | (go_at_call 286;refine (first_at m _ hi).mono ?_;rintro e w2 ⟨rfl,hb2⟩;have hc2:w2.cell? ⟨w.heap.size,0,none⟩=some (.int .i32 r):=(hb2.cell (p:=⟨w.heap.size,0,none⟩) hlR).trans hcR))
   have bP2:=bP1.go (below_of_drew hb2)
   have hB2:=hB1.trans ((below_of_drew hb2).mono hB1.size)
   have hd:decide (r<fr m)=true:=decide_eq_true (by omega)
   clear bP1 hB1 bR1 hb2 hc2
   go_wp2_with(go_at_call 287;refine (unassigned_any _).mono ?_;rintro e w3 ⟨rfl,hb3⟩;have bP3:=bP2.go hb3;have p0:=bP3.cell 0 (by omega);have p1:=bP3.cell 1 (by omega);have p2:=bP3.cell 2 (by omega);have p3:=bP3.cell 3 (by omega);have p4:=bP3.cell 4 (by omega);have p5:=bP3.cell 5 (by omega);have p6:=bP3.cell 6 (by omega);have f0:=bP3.frozen 0;have f1:=bP3.frozen 1;have f2:=bP3.frozen 2;have f3:=bP3.frozen 3;have f4:=bP3.frozen 4;have f5:=bP3.frozen 5;have f6:=bP3.frozen 6)
   refine bodyPost_ret (v:=pv (un)) ?_ rfl ⟨by rw[HO.out], ?_⟩
   ·simp[results,Tryz.results250,go_sem,p0,p1,p2,p3,p4,p5,p6]
   ·exact below_set7 (hB2.trans (hb3.mono hB2.size)) (Nat.le_succ _) _ _ _ _ _ _ _
 ·have h6:idx r=166:=by omega
  have HO:Hid (of r=un):=Lib.hid (by unfold of inTab;rw[h6];rfl)
  rw[h6]
  clear h6 hi hle
  have hd:(((166:Nat):Int)==166)=true:=rfl
  go_quiet (fail)
  have bPd:Blk7 (w1.drewN nq) (w.heap.size+1):=bP1
  have hBd:Below w.heap.size w (w1.drewN nq):=⟨hB1.os,hB1.tape,hB1.output,hB1.size,hB1.block⟩
  go_wp2_with(go_at_call 287;refine (unassigned_any _).mono ?_;rintro e w3 ⟨rfl,hb3⟩;have bP3:=bPd.go hb3;have p0:=bP3.cell 0 (by omega);have p1:=bP3.cell 1 (by omega);have p2:=bP3.cell 2 (by omega);have p3:=bP3.cell 3 (by omega);have p4:=bP3.cell 4 (by omega);have p5:=bP3.cell 5 (by omega);have p6:=bP3.cell 6 (by omega);have f0:=bP3.frozen 0;have f1:=bP3.frozen 1;have f2:=bP3.frozen 2;have f3:=bP3.frozen 3;have f4:=bP3.frozen 4;have f5:=bP3.frozen 5;have f6:=bP3.frozen 6)
  refine bodyPost_ret (v:=pv un) ?_ rfl ⟨by rw[HO.out], ?_⟩
  ·simp[results,Tryz.results250,go_sem,p0,p1,p2,p3,p4,p5,p6]
  ·exact below_set7 (hBd.trans (hb3.mono hBd.size)) (Nat.le_succ _) _ _ _ _ _ _ _
end Go.Proofs.YtkibdkfdffkkfaaGreatDoor
