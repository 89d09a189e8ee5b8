import Derived.Test.YtkibdkfdffkkfaaGreatDoorPk03
set_option maxRecDepth 100000
set_option maxHeartbeats 8000000
namespace Go.Proofs.YtkibdkfdffkkfaaGreatDoor.Ut
open Go.RowKit Utf
def ldV (s b l h:Int):Value:=.agg #[.int .i64 s,.int .u8 b,.int .u8 l,.int .u8 h]
def Narrowed (c s b:Int) (w:World) (e:Ending) (w':World):Prop :=
 e = .returned (ldV s b (loB c) (hiB c))/\Below w.heap.size w w'
theorem narrowed_mk{c s b l h:Int}{w w':World}(hl:loB c=l)(hh:hiB c=h)(hB:Below w.heap.size w w'):Narrowed c s b w (.returned (ldV s b l h)) w':=by
 subst hl hh
 exact⟨rfl,hB⟩
theorem narrow_any(c s b:Int)(w:World):Calls Tryz.prog 231 #[.int .u8 c,.agg #[.int .i64 s,.int .u8 b,.int .u8 128,.int .u8 191]] w (Narrowed c s b w):=by
 by_cases h1:c=224
 ·subst h1
  go_enter Tryz.func231,Tryz.ntmps231
  go_wp2
  exact bodyPost_ret (v:=ldV s b 160 191) (by simp[results,Tryz.results231,go_sem,ldV]) rfl (narrowed_mk rfl rfl (((Below.refl _ _).alloc (Nat.le_refl _) _).alloc (by simp) _))
 have g1:(c==224)=false:=by simpa using h1
 by_cases h2:c=237
 ·subst h2
  go_enter Tryz.func231,Tryz.ntmps231
  go_wp2
  exact bodyPost_ret (v:=ldV s b 128 159) (by simp[results,Tryz.results231,go_sem,ldV]) rfl (narrowed_mk rfl rfl (((Below.refl _ _).alloc (Nat.le_refl _) _).alloc (by simp) _))
 have g2:(c==237)=false:=by simpa using h2
 by_cases h3:c=240
 ·subst h3
  go_enter Tryz.func231,Tryz.ntmps231
  go_wp2
  exact bodyPost_ret (v:=ldV s b 144 191) (by simp[results,Tryz.results231,go_sem,ldV]) rfl (narrowed_mk rfl rfl (((Below.refl _ _).alloc (Nat.le_refl _) _).alloc (by simp) _))
 have g3:(c==240)=false:=by simpa using h3
 by_cases h4:c=244
 ·subst h4
  go_enter Tryz.func231,Tryz.ntmps231
  go_wp2
  exact bodyPost_ret (v:=ldV s b 128 143) (by simp[results,Tryz.results231,go_sem,ldV]) rfl (narrowed_mk rfl rfl (((Below.refl _ _).alloc (Nat.le_refl _) _).alloc (by simp) _))
 have g4:(c==244)=false:=by simpa using h4
 have H1:=Lib.hid (show loB c=128 by simp[loB,h1,h3])
 have H2:=Lib.hid (show hiB c=191 by simp[hiB,h2,h4])
 clear h1 h2 h3 h4
 go_enter Tryz.func231,Tryz.ntmps231
 go_wp2
 exact bodyPost_ret (v:=ldV s b 128 191) (by simp[results,Tryz.results231,go_sem,ldV]) rfl (narrowed_mk H1.out H2.out (((Below.refl _ _).alloc (Nat.le_refl _) _).alloc (by simp) _))
def Asked (c:Int) (w:World) (e:Ending) (w':World):Prop :=
 e = .returned (ldV (lead c).1 (lead c).2.1 (lead c).2.2.1 (lead c).2.2.2)/\Below w.heap.size w w'
theorem blk4{w w1:World}{a b c d:Value}{t:TypeId}(hb:Below (w.alloc (.cells #[a,b,c,d] t)).heap.size (w.alloc (.cells #[a,b,c,d] t)) w1) :
  (w1.cell? ⟨w.heap.size,0,none⟩=some a/\w1.cell? ⟨w.heap.size,1,none⟩=some b/\w1.cell? ⟨w.heap.size,2,none⟩=some c/\w1.cell? ⟨w.heap.size,3,none⟩=some d) /\
  (w1.frozen? ⟨w.heap.size,0,none⟩=false/\w1.frozen? ⟨w.heap.size,1,none⟩=false/\w1.frozen? ⟨w.heap.size,2,none⟩=false/\w1.frozen? ⟨w.heap.size,3,none⟩=false)/\w.heap.size<w1.heap.size:=by
 have hblk:w1.heap[w.heap.size]? = some (.cells #[a,b,c,d] t (0,0)):=(hb.block w.heap.size (by simp)).trans (World.alloc_heap_new w _)
 have hsz:=hb.size
 rw[World.size_alloc]at hsz
 refine⟨⟨?_, ?_, ?_, ?_⟩,⟨?_, ?_, ?_, ?_⟩,by omega⟩
 all_goals simp[World.cell?,World.frozen?,hblk]
theorem ask_any(c:Int)(w:World)(h0:0<=c)(h5:c<=255):Calls Tryz.prog 180 #[.int .u8 c] w (Asked c w):=by
 by_cases h1:c<=127
 ·have HL:=Lib.hid (lead1 h1)
  go_enter Tryz.func180,Tryz.ntmps180
  go_wp2
  exact bodyPost_ret (v:=ldV 1 c 0 0) (by simp[results,Tryz.results180,go_sem,ldV]) rfl ⟨by rw[HL.out],(Below.refl _ _).alloc (Nat.le_refl _) _⟩
 by_cases h2:c<194
 ·have HL:=Lib.hid (lead0 (by omega) (.inl h2))
  go_enter Tryz.func180,Tryz.ntmps180
  go_wp2
  exact bodyPost_ret (v:=ldV 0 0 0 0) (by simp[results,Tryz.results180,go_sem,ldV]) rfl ⟨by rw[HL.out],(Below.refl _ _).alloc (Nat.le_refl _) _⟩
 by_cases h3:244<c
 ·have HL:=Lib.hid (lead0 (by omega) (.inr h3))
  go_enter Tryz.func180,Tryz.ntmps180
  go_wp2
  exact bodyPost_ret (v:=ldV 0 0 0 0) (by simp[results,Tryz.results180,go_sem,ldV]) rfl ⟨by rw[HL.out],(Below.refl _ _).alloc (Nat.le_refl _) _⟩
 by_cases h4:c<=223
 ·have HL:=Lib.hid (lead2 (by omega) h4)
  go_enter Tryz.func180,Tryz.ntmps180
  go_wp2
  refine bodyPost_ret (v:=ldV 2 (c%32) 128 191) (by simp[results,Tryz.results180,go_sem,ldV]) rfl ⟨by rw[HL.out],(Below.refl _ _).alloc (Nat.le_refl _) _⟩
 by_cases h6:c<=239
 ·have HL:=Lib.hid (lead3 (by omega) h6)
  go_enter Tryz.func180,Tryz.ntmps180
  go_wp2_with(go_at_call 231;refine (narrow_any _ _ _ _).mono ?_;rintro e w1 ⟨rfl,hb⟩;obtain⟨⟨c0,c1,c2,c3⟩,⟨f0,f1,f2,f3⟩,hz⟩:=blk4 hb;simp only[ldV])
  refine bodyPost_ret (v:=ldV 3 (c%16) (loB c) (hiB c)) (by simp[results,Tryz.results180,go_sem,ldV,c0,c1,c2,c3]) rfl ⟨by rw[HL.out], ?_⟩
  exact (((((((Below.refl _ w).alloc (Nat.le_refl _) _).trans (hb.mono (by simp))).setCell (p:=⟨w.heap.size,0,none⟩) (Nat.le_refl _) _).setCell (p:=⟨w.heap.size,1,none⟩) (Nat.le_refl _) _).setCell (p:=⟨w.heap.size,2,none⟩) (Nat.le_refl _) _).setCell (p:=⟨w.heap.size,3,none⟩) (Nat.le_refl _) _)
 ·have HL:=Lib.hid (lead4 (c:=c) (by omega) (by omega))
  go_enter Tryz.func180,Tryz.ntmps180
  go_wp2_with(go_at_call 231;refine (narrow_any _ _ _ _).mono ?_;rintro e w1 ⟨rfl,hb⟩;obtain⟨⟨c0,c1,c2,c3⟩,⟨f0,f1,f2,f3⟩,hz⟩:=blk4 hb;simp only[ldV])
  refine bodyPost_ret (v:=ldV 4 (c%8) (loB c) (hiB c)) (by simp[results,Tryz.results180,go_sem,ldV,c0,c1,c2,c3]) rfl ⟨by rw[HL.out], ?_⟩
  exact (((((((Below.refl _ w).alloc (Nat.le_refl _) _).trans (hb.mono (by simp))).setCell (p:=⟨w.heap.size,0,none⟩) (Nat.le_refl _) _).setCell (p:=⟨w.heap.size,1,none⟩) (Nat.le_refl _) _).setCell (p:=⟨w.heap.size,2,none⟩) (Nat.le_refl _) _).setCell (p:=⟨w.heap.size,3,none⟩) (Nat.le_refl _) _)
def FirstDone (bs:List Int) (w:World) (e:Ending) (w':World):Prop :=
 e = .returned (.tuple #[.int .i32 (firstC bs).1,.int .i64 (firstC bs).2.1,.bool (firstC bs).2.2])/\Below w.heap.size w w'
def rb (i:Nat):Int:=if i<=1 then 127 else if i=2 then 8191 else if i=3 then 524287 else 33554431
theorem rb_le{i:Nat}{r:Int}(h:i<4)(hr:r<=rb i):r<=524287:=by
 unfold rb at hr
 split at hr
 ·omega
 ·split at hr
  ·omega
  ·split at hr<;>omega
theorem rb_step{i:Nat}{r b:Int}(h1:1<=i)(h:i<4)(hr:r<=rb i)(hb:b<64):r*64+b<=rb (i+1):=by
 have:i=1∨i=2∨i=3:=by omega
 rcases this with rfl|rfl|rfl<;>simp[rb]at hr ⊢ <;> omega
theorem firstC_lead{bs:List Int}{c:Int}{t:List Int}(h:bs=c::t)(h0:(lead c).1≠0):firstC bs=go bs (lead c).1.toNat ((lead c).1.toNat-1) 1 (lead c).2.1 (lead c).2.2.1 (lead c).2.2.2:=by
 subst h
 simp[firstC,h0]
theorem go_none{bs:List Int}{s k:Nat}{r lo hi:Int}(h:k<s)(hb:bs[k]? = none):go bs s (s-k) k r lo hi=(65533,k,false):=by
 rw[show s-k=(s-k-1)+1 from by omega]
 simp[go,hb]
theorem go_bad{bs:List Int}{s k:Nat}{r lo hi y:Int}(h:k<s)(hb:bs[k]? = some y)(hy:y<lo∨hi<y):go bs s (s-k) k r lo hi=(65533,k,false):=by
 rw[show s-k=(s-k-1)+1 from by omega]
 simp[go,hb,hy]
theorem go_next{bs:List Int}{s k:Nat}{r lo hi y:Int}(h:k<s)(hb:bs[k]? = some y)(hy:¬ (y<lo∨hi<y)):go bs s (s-k) k r lo hi=go bs s (s-(k+1)) (k+1) (r*64+y%64) 128 191:=by
 rw[show s-k=(s-(k+1))+1 from by omega]
 simp[go,hb,hy]
theorem go_done{bs:List Int}{s k:Nat}{r lo hi:Int}(h:s<=k):go bs s (s-k) k r lo hi=(r,s,true):=by
 rw[show s-k=0 from by omega]
 rfl
theorem first_mk{bs:List Int}{w w':World}{r:Int}{k:Nat}{ok:Bool}(h:firstC bs=(r,k,ok))(hB:Below w.heap.size w w'):FirstDone bs w (.returned (.tuple #[.int .i32 r,.int .i64 k,.bool ok])) w':=by
 unfold FirstDone
 rw[h]
 exact⟨rfl,hB⟩
def FRel (bs:List Int) (s:Nat) (r lo hi i:Value):Prop :=
 ∃ (k:Nat) (r' lo' hi':Int),1<=k/\k<=s/\k<=bs.length/\i = .int .i64 k/\r = .int .i32 r'/\lo = .int .u8 lo'/\hi = .int .u8 hi'/\0<=r'/\r'<=rb k/\firstC bs=go bs s (s-k) k r' lo' hi'
theorem first_lead(bs:List Int)(b off n c:Nat)(w:World)(hn:bs.length=n)(h1:1<=n)(hm:n<=100000)(hbyt:Byt bs)(hc:∀ k,k<(cl .u8 bs).length->w.cell? ⟨b,off+k,none⟩=(cl .u8 bs)[k]?)(hb:b<w.heap.size)
  (c0:Int) (hc0:w.cell? ⟨b,off,none⟩=some (.int .u8 c0)) (h00:0<=c0) (h05:c0<=255) (s:Nat) (x lo hi:Int) (hl:lead c0=((s:Int),x,lo,hi)) (hs1:1<=s) (hs4:s<=4) (hx0:0<=x) (hx1:x<=127)
  (hf:firstC bs=go bs s (s-1) 1 x lo hi) :
  Calls Tryz.prog 129 #[.slice (some ⟨b,off,none⟩) n c] w (FirstDone bs w):=by
 have hs0:((s:Int)==0)=false:=by simp;omega
 have HN:=Lib.hid hn
 have HF:=Lib.hid hf
 have HL:=Lib.hid hl
 have HC:=Lib.hid hc
 clear hn hf hl hc
 go_enter Tryz.func129,Tryz.ntmps129
 go_wp2_with(go_at_call 180;refine (ask_any _ _ h00 h05).mono ?_;rintro e w1 ⟨rfl,hB1⟩;rw[HL.out];simp only[ldV])
 go_quiet (fail)
 have hB2:Below w.heap.size w ((w1.alloc (.cells #[.int .i64 (s:Int),.int .u8 x,.int .u8 lo,.int .u8 hi] 211)).drewN nq):=by
  have h:=hB1.alloc hB1.size (.cells #[.int .i64 (s:Int),.int .u8 x,.int .u8 lo,.int .u8 hi] 211)
  exact⟨h.os,h.tape,h.output,h.size,h.block⟩
 go_wp2
 go_loop [6,7,8,9] (fun r lo hi i=>FRel bs s r lo hi i) (fun _ _ _ i=>s-(intOf i).toNat)
 case atStart=>exact⟨1,x,lo,hi,by omega,by omega,by rw[HN.out];omega,rfl,rfl,rfl,rfl,hx0,by simpa[rb] using hx1,HF.out⟩
 case round =>
  obtain⟨k,r',lo',hi',hk1,hks,hkn,rfl,rfl,rfl,rfl,hr0,hr1,hgo⟩:=hrel
  rw[HN.out]at hkn
  have HG:=Lib.hid hgo
  have HR:=Lib.hid hr1
  clear hgo hr1
  by_cases hlt:k<s
  ·by_cases hkn':k=n
   ·subst hkn'
    go_wp2
    go_ret3
    exact first_mk (HG.out.trans (go_none hlt (List.getElem?_eq_none (by rw[HN.out];omega)))) hB2
   ·have hkl:k<n:=by omega
    have hne:((k:Int)==(n:Int))=false:=by simp;omega
    have hcell:=HC.out k (by simp[HN.out];omega)
    rw[cl_get _ _ _ (by rw[HN.out];exact hkl)]at hcell
    have hcell1:=(hB1.cell (p:=⟨b,off+k,none⟩) hb).trans hcell
    obtain⟨y,hy⟩:∃ y,bs[k]'(by rw[HN.out];exact hkl)=y:=⟨_,rfl⟩
    rw[hy]at hcell hcell1
    have hyr:0<=y/\y<=255:=by rw[<-hy];exact hbyt _ (List.getElem_mem _)
    have hbs:bs[k]? = some y:=by rw[<-hy];exact List.getElem?_eq_getElem _
    have HB:=Lib.hid hbs
    clear hy hbs hcell
    have hb1:b<w1.heap.size:=by have:=hB1.size;omega
    have hr2:r'<=524287:=rb_le (by omega) HR.out
    by_cases hlo:y<lo'
    ·go_wp2
     go_ret3
     exact first_mk (HG.out.trans (go_bad hlt HB.out (.inl hlo))) hB2
    by_cases hhi:hi'<y
    ·go_wp2
     go_ret3
     exact first_mk (HG.out.trans (go_bad hlt HB.out (.inr hhi))) hB2
    ·go_wp2
     go_round
     case rel=>exact⟨k+1,r'*64+y%64,128,191,by omega,by omega,by rw[HN.out];omega,by go_num,by go_num,rfl,rfl,by omega,rb_step hk1 (by omega) HR.out (by omega),HG.out.trans (go_next hlt HB.out (by omega))⟩
     case measure=>simp[intOf];omega
  ·go_wp2
   go_quiet (fail)
   go_wp2
   go_ret3
   exact first_mk (HG.out.trans (go_done (by omega))) (by exact⟨hB2.os,hB2.tape,hB2.output,hB2.size,hB2.block⟩)
theorem first_bad(bs:List Int)(b off n c:Nat)(w:World)(h1:1<=n)(hm:n<=100000)(c0:Int)(hc0:w.cell? ⟨b,off,none⟩=some (.int .u8 c0))(h00:0<=c0)(h05:c0<=255)
  (hl:lead c0=(0,0,0,0)) (hf:firstC bs=(65533,1,false)) :
  Calls Tryz.prog 129 #[.slice (some ⟨b,off,none⟩) n c] w (FirstDone bs w):=by
 have HF:=Lib.hid hf
 have HL:=Lib.hid hl
 clear hf hl
 go_enter Tryz.func129,Tryz.ntmps129
 go_wp2_with(go_at_call 180;refine (ask_any _ _ h00 h05).mono ?_;rintro e w1 ⟨rfl,hB1⟩;rw[HL.out];simp only[ldV])
 go_ret3
 exact first_mk HF.out (hB1.alloc hB1.size _)
theorem lead_parts(c:Int)(h0:0<=c)(h1:c<=255):lead c=(0,0,0,0)∨∃ (s:Nat) (x lo hi:Int),lead c=((s:Int),x,lo,hi)/\1<=s/\s<=4/\0<=x/\x<=127:=by
 by_cases a1:c<=127
 ·exact .inr ⟨1,c,0,0,lead1 a1,by omega,by omega,h0,a1⟩
 by_cases a2:c<194
 ·exact .inl (lead0 (by omega) (.inl a2))
 by_cases a3:244<c
 ·exact .inl (lead0 (by omega) (.inr a3))
 by_cases a4:c<=223
 ·exact .inr ⟨2,_,_,_,lead2 (by omega) a4,by omega,by omega,by omega,by omega⟩
 by_cases a5:c<=239
 ·exact .inr ⟨3,_,_,_,lead3 (by omega) a5,by omega,by omega,by omega,by omega⟩
 ·exact .inr ⟨4,_,_,_,lead4 (by omega) (by omega),by omega,by omega,by omega,by omega⟩
theorem first_any(bs:List Int)(A:Option Addr)(n c:Nat)(w:World)(hn:bs.length=n)(h1:1<=n)(hm:n<=100000)(hbyt:Byt bs)(hr:Row w w.heap.size A (cl .u8 bs)) :
  Calls Tryz.prog 129 #[.slice A n c] w (FirstDone bs w):=by
 obtain⟨b,off,rfl,hb,hc⟩:=hr.at_ (by simp;omega)
 cases bs with
 | nil=>simp at hn;omega
 | cons c0 t =>
  have hc0:=hc 0 (by simp)
  rw[cl_get _ _ _ (by simp),Nat.add_zero]at hc0
  have hby:=hbyt c0 (by simp)
  rcases lead_parts c0 hby.1 hby.2 with hl|⟨s,x,lo,hi,hl,hs1,hs4,hx0,hx1⟩
  ·exact first_bad _ b off n c w h1 hm c0 hc0 hby.1 hby.2 hl (by simp[firstC,hl])
  ·refine first_lead _ b off n c w hn h1 hm hbyt hc hb c0 hc0 hby.1 hby.2 s x lo hi hl hs1 hs4 hx0 hx1 ?_
   rw[firstC_lead rfl (by rw[hl];show (s:Int)≠0;omega),hl]
   simp
def MadeBytes (bs:List Int) (w:World) (e:Ending) (w':World):Prop :=
 ∃ v,e = .returned v/\w'.ownsRow w.heap.size 5 1 v bs.length (cl .u8 bs)/\Below w.heap.size w w'
def EncRel (l:List Int) (w:World) (o i:Value) (wr:World):Prop :=
 ∃ k:Nat,k<=l.length/\i = .int .i64 k/\wr.ownsRow w.heap.size 5 1 o (enc (l.take k)).length (cl .u8 (enc (l.take k)))/\Below w.heap.size w wr
theorem Encode_any(l:List Int)(A:Option Addr)(n c:Nat)(w:World)(hn:l.length=n)(hm:n<=100000)(hr:Row w w.heap.size A (cl .i32 l)) :
  Calls Tryz.prog 86 #[.slice A n c] w (MadeBytes (enc l) w):=by
 obtain⟨i0,hi,hz0,hz1,hz2⟩:=info_parts info_u8
 have hmk:∀ u:World,(Instr.makeSlice 40 (.int .i64 0) (.int .i64 (n:Int))).run Tryz.prog u =
   .ok (.slice (some ⟨u.heap.size,0,none⟩) 0 n) (u.alloc (.cells (madeCells #[.int .u8 0] n) 5)):=fun u=>by
  have h:=run_make (P:=Tryz.prog) u 40 5 i0 (.int .u8 0) Tryz.underlying40 hi hz0 .i64 .i64 0 (n:Int) (by omega) (by omega) (by rw[hz2];omega) (by omega)
  simpa[hz1,Value.cells] using h
 have hsz:(madeCells #[Value.int .u8 0] n).size=n*1:=by simp[madeCells]
 have hmade:=World.ownsRow_made (base:=w.heap.size) (e:=5) (size:=1) w (madeCells #[.int .u8 0] n) n (Nat.le_refl _) (by unfold maxLen;omega) hsz
 have HN:=Lib.hid hn
 have HMD:=Lib.hid hmade
 clear hn hmade hsz
 go_enter Tryz.func86,Tryz.ntmps86
 go_wp2
 clear hmk
 go_loopw [3,11] (fun o i wr=>EncRel l w o i wr) (fun _ i _=>n-(intOf i).toNat)
 case atStart=>exact⟨0,Nat.zero_le _,rfl,by simpa[enc] using HMD.out,(Below.refl _ _).alloc (Nat.le_refl _) _⟩
 case round =>
  obtain⟨k,hk,rfl,hown,hB⟩:=hrel
  rw[HN.out]at hk
  by_cases hlt:k<n
  ·have hkl:k<l.length:=by rw[HN.out];exact hlt
   obtain⟨b,off,rfl,hb,hc⟩:=(hr.below hB).at_ (by simp;omega)
   have hcell:=hc k (by simp;omega)
   rw[cl_get _ _ _ hkl]at hcell
   have hle:=enc_take_le l k
   have hsz:=hB.size
   have HC:=Lib.hid hc
   have HR:=Lib.hid hr
   clear hc hr
   go_wp2_with(go_at_call 144;refine (add_any w.heap.size _ _ _ _ _ hown (by omega) (by omega)).mono ?_;rintro e w1 ⟨v',rfl,hown1,hgrow1⟩)
   go_roundw
   case rel=>exact⟨k+1,by omega,by go_num,by rw[enc_take_succ l k hkl,List.length_append];simpa using hown1,hB.grown hgrow1 hsz (fun j e=>(hown.lt j e).1)⟩
   case measure=>simp[intOf];omega
  ·obtain rfl:k=n:=by omega
   go_wp2
   go_ret
   refine⟨_,rfl, ?_,hB⟩
   rw[List.take_of_length_le (by rw[HN.out];omega)]at hown
   exact hown
end Go.Proofs.YtkibdkfdffkkfaaGreatDoor.Ut
namespace Go.Proofs.YtkibdkfdffkkfaaGreatDoor
open Go.RowKit
namespace Norm
def syl (r:Int):Bool:=decide (44032<=r/\r<=55203)
def sylParts (r:Int):Int × Int:=if (r-44032)%28=0 then (4352+(r-44032)/28/21,4449+(r-44032)/28%21) else (r-(r-44032)%28,4519+(r-44032)%28)
def sylJoin (a b:Int):Option Int :=
 if 4352<=a/\a<4371/\4449<=b/\b<4470 then some (44032+((a-4352)*21+(b-4449))*28)
 else if 44032<=a/\a<=55203/\(a-44032)%28=0/\4520<=b/\b<4547 then some (a+b-4519) else none
end Norm
open Norm
def Gives (v:Value) (w:World) (e:Ending) (w':World):Prop:=e = .returned v/\w=w'
theorem single_any(r:Int)(w:World):Calls Tryz.prog 320 #[.int .i32 r] w (Gives (.tuple #[.int .i32 (if r=9001 then 12296 else if r=9002 then 12297 else 0),.bool (decide (r=9001∨r=9002))]) w):=by
 by_cases h1:r=9001
 ·subst h1
  go_enter Tryz.func320,Tryz.ntmps320
  go_wp2
  go_ret2
  exact⟨rfl,rfl⟩
 ·by_cases h2:r=9002
  ·subst h2
   go_enter Tryz.func320,Tryz.ntmps320
   go_wp2
   go_ret2
   exact⟨rfl,rfl⟩
  ·have h3:((r==9001)=false):=by simp[h1]
   have h4:((r==9002)=false):=by simp[h2]
   go_enter Tryz.func320,Tryz.ntmps320
   go_wp2
   go_ret2
   exact⟨by rfl,rfl⟩
def prt (p:Int × Int):Value:=.agg #[.int .i32 p.1,.int .i32 p.2]
def sylV (r:Int):Value:=.tuple #[if syl r then prt (sylParts r) else prt (0,0),.bool (syl r)]
theorem sylV_yes{r:Int}(h:syl r=true){p:Int × Int}(hp:sylParts r=p):sylV r = .tuple #[prt p,.bool true]:=by unfold sylV;rw[h,if_pos rfl,hp]
theorem sylV_no{r:Int}(h:syl r=false):sylV r = .tuple #[prt (0,0),.bool false]:=by unfold sylV;rw[h];rfl
def Tells (v:Value) (w:World) (e:Ending) (w':World):Prop:=e = .returned v/\Below w.heap.size w w'
theorem box_parts{w:World}{B:Nat}{a b:Value}(h:w.heap[B]? = some (.cells #[a,b] 278 (0,0))) :
  w.cell? ⟨B,0,none⟩=some a/\w.cell? ⟨B,1,none⟩=some b/\w.frozen? ⟨B,0,none⟩=false/\w.frozen? ⟨B,1,none⟩=false:=by
 simp[World.cell?,World.frozen?,h]
theorem alloc_heap_new'(w:World)(o:Obj):(w.alloc o).heap[w.heap.size]? = some o:=by
 show (w.heap.push o)[w.heap.size]? = _
 simp
theorem res_syl{w:World}{B:Nat}{a b v:Value}{tmps:Array Value}(h:w.heap[B]? = some (.cells #[a,b] 278 (0,0)))(t2:tmps[2]? = some (.pointer (some ⟨B,0,none⟩)):=by rfl)(t3:tmps[3]? = some v:=by rfl) :
  (results Tryz.f362 tmps).run Tryz.prog w = .ok (.tuple #[.agg #[a,b],v]) w:=by
 obtain⟨c0,c1,_,_⟩:=box_parts h
 simp[results,Tryz.results362,go_sem,c0,c1,t2,t3]
theorem tells_alloc{v:Value}{w:World}(o:Obj){e:Ending}(h:e = .returned v):Tells v w e (w.alloc o):=⟨h,(Below.refl _ w).alloc (Nat.le_refl _) o⟩
theorem syllable_any(r:Int)(w:World)(h0:-2147483648<=r)(h1:r<=2147483647) :
  Calls Tryz.prog 362 #[.int .i32 r] w (Tells (sylV r) w):=by
 by_cases hs:44032<=r
 ·by_cases ht:r<55204
  ·have HS:Hid (syl r=true):=Lib.hid (by unfold syl;simp;omega)
   obtain⟨x,hx⟩:∃ x,r-44032=x:=⟨_,rfl⟩
   have hx0:0<=x:=by omega
   have hx1:x<11172:=by omega
   have hm:x.tmod 28=x%28:=Int.tmod_eq_emod_of_nonneg hx0
   by_cases hz:x%28=0
   ·have HP:Hid (sylParts r=(4352+x/28/21,4449+x/28%21)):=Lib.hid (by unfold sylParts;rw[hx,if_pos hz])
    have hd1:x.tdiv 28=x/28:=Int.tdiv_eq_ediv_of_nonneg hx0
    have hd2:(x/28).tdiv 21=x/28/21:=Int.tdiv_eq_ediv_of_nonneg (by omega)
    have hd3:(x/28).tmod 21=x/28%21:=Int.tmod_eq_emod_of_nonneg (by omega)
    go_enter Tryz.func362,Tryz.ntmps362
    go_wp2
    refine bodyPost_ret (res_syl (alloc_heap_new' w _)) rfl ?_
    exact tells_alloc _ (by rw[sylV_yes HS.out HP.out];rfl)
   ·have HP:Hid (sylParts r=(r-x%28,4519+x%28)):=Lib.hid (by unfold sylParts;rw[hx,if_neg hz])
    have hzb:((x%28)==0)=false:=by simp;omega
    go_enter Tryz.func362,Tryz.ntmps362
    go_wp2
    refine bodyPost_ret (res_syl (alloc_heap_new' w _)) rfl ?_
    exact tells_alloc _ (by rw[sylV_yes HS.out HP.out];rfl)
  ·have HS:Hid (syl r=false):=Lib.hid (by unfold syl;simp;omega)
   have ht2:55204<=r:=by omega
   go_enter Tryz.func362,Tryz.ntmps362
   go_wp2
   refine bodyPost_ret (res_syl (alloc_heap_new' w _)) rfl ?_
   exact tells_alloc _ (by rw[sylV_no HS.out];rfl)
 ·have HS:Hid (syl r=false):=Lib.hid (by unfold syl;simp;omega)
  have ht2:r<44032:=by omega
  go_enter Tryz.func362,Tryz.ntmps362
  go_wp2
  refine bodyPost_ret (res_syl (alloc_heap_new' w _)) rfl ?_
  exact tells_alloc _ (by rw[sylV_no HS.out];rfl)
theorem tells_allocN{v:Value}{w:World}(o:Obj)(q:Nat){e:Ending}(h:e = .returned v):Tells v w e ((w.alloc o).drewN q):=by
 have h1:=(Below.refl _ w).alloc (Nat.le_refl _) o
 exact⟨h,h1.os,h1.tape,h1.output,h1.size,h1.block⟩
def sylJ (p:Int × Int):Value:=match sylJoin p.1 p.2 with|some r => .tuple #[.int .i32 r,.bool true]|none => .tuple #[.int .i32 0,.bool false]
theorem sylJ_some{a b r:Int}(h:sylJoin a b=some r):sylJ (a,b) = .tuple #[.int .i32 r,.bool true]:=by unfold sylJ;simp only[h]
theorem sylJ_none{a b:Int}(h:sylJoin a b=none):sylJ (a,b) = .tuple #[.int .i32 0,.bool false]:=by unfold sylJ;simp only[h]
theorem joinSyllable_any(a b:Int)(w:World)(ha0:-2147483648<=a)(ha1:a<=2147483647)(hb0:-2147483648<=b)(hb1:b<=2147483647) :
  Calls Tryz.prog 280 #[.agg #[.int .i32 a,.int .i32 b]] w (Tells (sylJ (a,b)) w):=by
 by_cases h1:4352<=a/\a<4371
 ·obtain⟨h1a,h1b⟩:=h1
  have n1:a<44032:=by omega
  by_cases h2:4449<=b/\b<4470
  ·obtain⟨h2a,h2b⟩:=h2
   have HR:Hid (sylJoin a b=some (44032+((a-4352)*21+(b-4449))*28)):=Lib.hid (by unfold sylJoin;rw[if_pos ⟨h1a,h1b,h2a,h2b⟩])
   go_enter Tryz.func280,Tryz.ntmps280
   go_wp2
   go_quiet (fail)
   go_wp2
   go_ret2
   exact tells_allocN _ _ (by rw[sylJ_some HR.out];rfl)
  ·have HR:Hid (sylJoin a b=none):=Lib.hid (by unfold sylJoin;rw[if_neg (by omega),if_neg (by omega)])
   by_cases h3:4449<=b
   ·have h4:4470<=b:=by omega
    go_enter Tryz.func280,Tryz.ntmps280
    go_wp2
    go_ret2
    exact tells_alloc _ (by rw[sylJ_none HR.out];rfl)
   ·have h4:b<4449:=by omega
    go_enter Tryz.func280,Tryz.ntmps280
    go_wp2
    go_ret2
    exact tells_alloc _ (by rw[sylJ_none HR.out];rfl)
 ·by_cases h5:44032<=a/\a<55204
  ·obtain⟨h5a,h5b⟩:=h5
   have n1:4371<=a:=by omega
   obtain⟨x,hx⟩:∃ x,a-44032=x:=⟨_,rfl⟩
   have hx0:0<=x:=by omega
   have hm:x.tmod 28=x%28:=Int.tmod_eq_emod_of_nonneg hx0
   by_cases hz:x%28=0
   ·by_cases h6:4520<=b/\b<4547
    ·obtain⟨h6a,h6b⟩:=h6
     have HR:Hid (sylJoin a b=some (a+b-4519)):=Lib.hid (by unfold sylJoin;rw[if_neg (by omega),if_pos ⟨h5a,by omega,by rw[hx];exact hz,h6a,h6b⟩])
     go_enter Tryz.func280,Tryz.ntmps280
     go_wp2
     go_ret2
     exact tells_alloc _ (by rw[sylJ_some HR.out];rfl)
    ·have HR:Hid (sylJoin a b=none):=Lib.hid (by unfold sylJoin;rw[if_neg (by omega),if_neg (by omega)])
     by_cases h7:4520<=b
     ·have h8:4547<=b:=by omega
      go_enter Tryz.func280,Tryz.ntmps280
      go_wp2
      go_ret2
      exact tells_alloc _ (by rw[sylJ_none HR.out];rfl)
     ·have h8:b<4520:=by omega
      go_enter Tryz.func280,Tryz.ntmps280
      go_wp2
      go_ret2
      exact tells_alloc _ (by rw[sylJ_none HR.out];rfl)
   ·have HR:Hid (sylJoin a b=none):=Lib.hid (by unfold sylJoin;rw[if_neg (by omega),if_neg (by rw[hx];omega)])
    have hzb:((x%28)==0)=false:=by simp;omega
    go_enter Tryz.func280,Tryz.ntmps280
    go_wp2
    go_ret2
    exact tells_alloc _ (by rw[sylJ_none HR.out];rfl)
  ·have HR:Hid (sylJoin a b=none):=Lib.hid (by unfold sylJoin;rw[if_neg (by omega),if_neg (by omega)])
   by_cases h7:a<4352
   ·go_enter Tryz.func280,Tryz.ntmps280
    go_wp2
    go_ret2
    exact tells_alloc _ (by rw[sylJ_none HR.out];rfl)
   ·have h8:4371<=a:=by omega
    by_cases h9:a<44032
    ·go_enter Tryz.func280,Tryz.ntmps280
     go_wp2
     go_ret2
     exact tells_alloc _ (by rw[sylJ_none HR.out];rfl)
    ·have h10:55204<=a:=by omega
     go_enter Tryz.func280,Tryz.ntmps280
     go_wp2
     go_ret2
     exact tells_alloc _ (by rw[sylJ_none HR.out];rfl)
end Go.Proofs.YtkibdkfdffkkfaaGreatDoor
