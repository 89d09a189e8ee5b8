import Derived.Test.YtkibdkfdffkkfaaGreatDoorPk08
import Derived.Test.YtkibdkfdffkkfaaGreatDoorPk09
set_option maxRecDepth 100000
set_option maxHeartbeats 8000000
namespace Go.Proofs.YtkibdkfdffkkfaaGreatDoor.Hst
open Go.RowKit Utf Ut Pn
def Says (q:Bool) (w:World) (e:Ending) (w':World):Prop:=e = .returned (.bool q)/\Below w.heap.size w w'
def Numb (i:Int) (w:World) (e:Ending) (w':World):Prop:=e = .returned (.int .i64 i)/\Below w.heap.size w w'
theorem valid_sca(r:Int):Utf8.valid r=sca r:=by
 unfold Utf8.valid sca
 rw[Bool.eq_iff_iff]
 simp only[Bool.or_eq_true,Bool.and_eq_true,decide_eq_true_eq]
 omega
theorem ValidRune_any(r:Int)(w:World):Calls Tryz.prog 105 #[.int .i32 r] w (fun e w'=>e = .returned (.bool (sca r))/\w=w'):=by
 have HS:Hid (sca r=decide (0<=r/\r<=1114111/\(r<55296∨57343<r))):=Lib.hid rfl
 by_cases h0:0<=r
 ·have d0:decide (0<=r)=true:=decide_eq_true h0
  by_cases h1:r<55296
  ·have d1:decide (r<55296)=true:=decide_eq_true h1
   have HE:Hid (sca r=true):=Lib.hid (by rw[HS.out,decide_eq_true];omega)
   rw[HE.out]
   clear HS HE
   go_enter Tryz.func105,Tryz.ntmps105
   go_wp2_with fail
   go_ret
   exact⟨rfl,rfl⟩
  ·have d1:decide (r<55296)=false:=decide_eq_false h1
   by_cases h2:57343<r
   ·have d2:decide (57343<r)=true:=decide_eq_true h2
    by_cases h3:r<=1114111
    ·have d3:decide (r<=1114111)=true:=decide_eq_true h3
     have HE:Hid (sca r=true):=Lib.hid (by rw[HS.out,decide_eq_true];omega)
     rw[HE.out]
     clear HS HE
     go_enter Tryz.func105,Tryz.ntmps105
     go_wp2_with fail
     go_ret
     exact⟨rfl,rfl⟩
    ·have d3:decide (r<=1114111)=false:=decide_eq_false h3
     have HE:Hid (sca r=false):=Lib.hid (by rw[HS.out,decide_eq_false];omega)
     rw[HE.out]
     clear HS HE
     go_enter Tryz.func105,Tryz.ntmps105
     go_wp2_with fail
     go_ret
     exact⟨rfl,rfl⟩
   ·have d2:decide (57343<r)=false:=decide_eq_false h2
    have HE:Hid (sca r=false):=Lib.hid (by rw[HS.out,decide_eq_false];omega)
    rw[HE.out]
    clear HS HE
    go_enter Tryz.func105,Tryz.ntmps105
    go_wp2_with fail
    go_ret
    exact⟨rfl,rfl⟩
 ·have d0:decide (0<=r)=false:=decide_eq_false h0
  have h2:¬ 57343<r:=by omega
  have d2:decide (57343<r)=false:=decide_eq_false h2
  have HE:Hid (sca r=false):=Lib.hid (by rw[HS.out,decide_eq_false];omega)
  rw[HE.out]
  clear HS HE
  go_enter Tryz.func105,Tryz.ntmps105
  go_wp2_with fail
  go_ret
  exact⟨rfl,rfl⟩
theorem idx_none:∀ (l:List UInt8) (c:UInt8),(∀ b∈l,b≠c)->Lib.indexByte l c = -1:=by
 intro l c h
 cases hi:Lib.indexByte l c with
 | ofNat o =>
  obtain⟨h1,_⟩:=Lib.indexByte_some (o:=o) hi
  exact absurd rfl (h c (List.mem_of_getElem? h1))
 | negSucc o =>
  have:=Lib.indexByte_ge l c
  rw[hi]at this
  omega
theorem IndexRune_near(s:ByteArray)(r:Int)(h0:0<=r)(h1:r<128)(w:World):Calls Tryz.prog 62 #[.string s,.int .i32 r] w (Numb (Lib.indexByte s.data.toList r.toNat.toUInt8) w):=by
 have HI:=Lib.hid (fun W=>IndexByte_any s r W)
 have hw8:IntKind.u8.wrap r=r:=by simp[IntKind.wrap,IntKind.signed,IntKind.bits];omega
 have d0:decide (0<=r)=true:=decide_eq_true h0
 have d1:decide (r<128)=true:=decide_eq_true h1
 obtain⟨I,hI⟩:∃ I,Lib.indexByte s.data.toList r.toNat.toUInt8=I:=⟨_,rfl⟩
 rw[hI]at HI ⊢
 clear hI
 go_enter Tryz.func62,Tryz.ntmps62
 go_wp2_with(first|(go_at_call 44;refine (HI.out _).mono ?_;rintro e w1 ⟨rfl,rfl⟩)|fail)
 go_ret
 exact⟨rfl,Below.refl _ _⟩
theorem IndexRune_bad(s:ByteArray)(r:Int)(h0:r<0∨127<r)(hf:r≠65533)(hv:sca r=false)(w:World):Calls Tryz.prog 62 #[.string s,.int .i32 r] w (Numb (-1) w):=by
 have HV:=Lib.hid (fun W=>ValidRune_any r W)
 have hfz:(r==65533)=false:=beq_eq_false_iff_ne.2 hf
 rw[hv]at HV
 clear hv hf
 rcases h0 with h0|h0
 ·have h0':¬ 0<=r:=by omega
  have d0:decide (0<=r)=false:=decide_eq_false h0'
  go_enter Tryz.func62,Tryz.ntmps62
  go_wp2_with(first|(go_at_call 105;refine (HV.out _).mono ?_;rintro e w1 ⟨rfl,rfl⟩)|fail)
  go_ret
  exact⟨rfl,Below.refl _ _⟩
 ·have h0':0<=r:=by omega
  have h1':¬ r<128:=by omega
  have d0:decide (0<=r)=true:=decide_eq_true h0'
  have d1:decide (r<128)=false:=decide_eq_false h1'
  go_enter Tryz.func62,Tryz.ntmps62
  go_wp2_with(first|(go_at_call 105;refine (HV.out _).mono ?_;rintro e w1 ⟨rfl,rfl⟩)|fail)
  go_ret
  exact⟨rfl,Below.refl _ _⟩
theorem IndexRune_fffd(s:ByteArray)(ha:∀ (i:Nat) (h:i<s.size),(s[i]'h).toNat<128)(w:World):Calls Tryz.prog 62 #[.string s,.int .i32 65533] w (Numb (-1) w):=by
 have HA:=Lib.hid ha
 clear ha
 go_enter Tryz.func62,Tryz.ntmps62
 go_upto_region 38 with fail
 go_loopg [5,6] s.size (fun m s5 s6 wr => ∃ k:Nat,s.size-k=m/\k<=s.size/\wr=w.iter s k)
 case atStart=>exact⟨0,rfl,Nat.zero_le _,rfl⟩
 case round =>
  obtain⟨k,rfl,hk,rfl⟩:=hrel
  by_cases hlt:k<s.size
  ·have hn:=fun ty=>run_next_ascii (P:=Tryz.prog) w s k ty hlt (HA.out k hlt)
   have hv:=HA.out k hlt
   obtain⟨v,hvv⟩:∃ v,(s[k]'hlt).toNat=v:=⟨_,rfl⟩
   simp only[hvv]at hn
   rw[hvv]at hv
   have hvz:((v:Int)==65533)=false:=by rw[beq_eq_false_iff_ne];omega
   clear hvv
   go_wp2_with fail
   go_roundg (s.size-(k+1))
   case measure=>omega
   case rel=>exact⟨k+1,rfl,by omega,rfl⟩
  ·have hn:=fun ty=>run_next_end (P:=Tryz.prog) w s k ty hlt
   go_wp2_with fail
   go_ret
   exact⟨rfl,upA w _⟩
theorem below_drewN(w:World)(n:Nat):Below w.heap.size w (w.drewN n):=⟨rfl,rfl,rfl,Nat.le_refl _,fun _ _=>rfl⟩
theorem mem_ascii{s:ByteArray}(ha:∀ (i:Nat) (h:i<s.size),(s[i]'h).toNat<128):∀ b∈dl s,b.toNat<128:=by
 intro b hb
 obtain⟨i,hi,rfl⟩:=List.getElem_of_mem hb
 have h:i<s.size:=by simpa[dl] using hi
 have:=ha i h
 have e:s[i]'h=(dl s)[i]'hi:=by simp[dl];rfl
 rw[e]at this
 exact this
theorem IndexRune_far(s:ByteArray)(hs:4<=s.size)(hs2:s.size<=100000)(ha:∀ (i:Nat) (h:i<s.size),(s[i]'h).toNat<128)(r:Int)(h0:127<r)(hf:r≠65533)(hv:sca r=true)(w:World):Calls Tryz.prog 62 #[.string s,.int .i32 r] w (Numb (-1) w):=by
 have HV:=Lib.hid (fun W=>ValidRune_any r W)
 have hfz:(r==65533)=false:=beq_eq_false_iff_ne.2 hf
 obtain⟨e1,e2,e3⟩:=encode_facts r (by rw[valid_sca];exact hv) (by omega)
 have hcv:∀ W,(convert 21 9 (.int .i32 r)).run Tryz.prog W = .ok (.string (Utf8.encode r)) W:=fun W=>run_convert_int_string W _ _ _ _ (by rw[Tryz.underlying21];rfl) Tryz.underlying9
 rw[hv]at HV
 obtain⟨rs,hrs⟩:∃ rs,Utf8.encode r=rs:=⟨_,rfl⟩
 rw[hrs]at e1 e2 hcv
 obtain⟨L,hL⟩:∃ L,L+1=rs.size:=⟨rs.size-1,by omega⟩
 have hLr:L<rs.size:=by omega
 have e4:128<=(rs[L]'hLr).toNat:=by
  have:=e3 (by rw[hrs];omega)
  subst hrs
  have e:(Utf8.encode r).size-1=L:=by omega
  simp only[e]at this
  exact this
 have hLs:L<s.size:=by omega
 have hsl:=ha L hLs
 have hne:(((s[L]'hLs).toNat:Int) != ((rs[L]'hLr).toNat:Int))=true:=by rw[bne_iff_ne];omega
 have hI:Lib.indexByte (s.extract (L+1) s.size).data.toList (((rs[L]'hLr).toNat:Int).toNat.toUInt8) = -1:=by
  refine idx_none _ _ fun b hb => ?_
  have hb2:b∈(dl s).drop (L+1):=by rw[<-ext_drop];exact hb
  have:=mem_ascii ha b (List.mem_of_mem_drop hb2)
  intro e
  rw[e]at this
  have h3:(((rs[L]'hLr).toNat:Int).toNat.toUInt8).toNat=(rs[L]'hLr).toNat:=by
   rw[Int.toNat_natCast]
   show (UInt8.ofNat _).toNat=_
   rw[UInt8.ofNat_toNat]
  omega
 have HB:=Lib.hid (fun W=>IndexByte_any (s.extract (L+1) s.size) ((rs[L]'hLr).toNat:Int) W)
 rw[hI]at HB
 rw[hL]at HB
 have hLz:(rs.size:Int)-1=(L:Int):=by omega
 have hLsz:(L:Int)<(s.size:Int):=by omega
 have hLrz:(L:Int)<(rs.size:Int):=by omega
 have hL0:(0:Int)<=(L:Int):=by omega
 have hL1:(L:Int)+1<=(s.size:Int):=by omega
 have hwL:IntKind.i64.wrap (L:Int)=(L:Int):=IntWalk.i64_in _ (by omega)
 have hwL1:IntKind.i64.wrap ((L:Int)+1)=(L:Int)+1:=IntWalk.i64_in _ (by omega)
 have hL2:(0:Int)<=(L:Int)+1:=by omega
 have hLt:((L:Int)+1).toNat=L+1:=by omega
 have hLn:L+1<=s.size:=by omega
 have h0':0<=r:=by omega
 have h1':¬ r<128:=by omega
 have d0:decide (0<=r)=true:=decide_eq_true h0'
 have d1:decide (r<128)=false:=decide_eq_false h1'
 clear hf hv hrs e3 hI ha
 go_enter Tryz.func62,Tryz.ntmps62
 go_upto_region 5 with(first|(go_at_call 105;refine (HV.out _).mono ?_;rintro e w1 ⟨rfl,rfl⟩)|fail)
 go_step3
 go_wp2_with fail
 go_loopg [9,10,11,12] 1 (fun m s9 s10 s11 s12 wr=>m=1/\s9 = .int .i64 (L:Int)/\s10 = .int .i64 0/\wr=w)
 case atStart=>exact⟨rfl,rfl,rfl,rfl⟩
 case round =>
  obtain⟨rfl,rfl,rfl,hwr⟩:=hrel
  go_wp2_with fail
  go_step3
  go_upto_region 6 with fail
  go_quiet (fail)
  have hB7:=below_drewN w nq
  generalize w.drewN nq=w7 at hB7 ⊢
  go_upto_region 7 with fail
  go_region_law (first|(go_simp;go_at_call 44;(with_reducible refine (HB.out _).mono ?_);rintro e' wA ⟨rfl,rfl⟩)|fail)
  all_goals
   go_wp2_with fail
   try rw[Exit.noGoto_ret]
   try rw[Exit.noGoto_ret]
   go_ret
   exact⟨rfl,hB7.drew⟩
abbrev NH:ByteArray:=⟨#[0,9,10,13,32,35,47,58,60,62,63,64,91,92,93,94,124]⟩
def forb (r:Int):Bool:=decide (r∈([0,9,10,13,32,35,47,58,60,62,63,64,91,92,93,94,124]:List Int))
def forbD (r:Int):Bool:=forb r||decide (0<=r/\r<=31)||r==37||r==127
theorem never_near:∀ k:Fin 128,decide (0<=Lib.indexByte [0,9,10,13,32,35,47,58,60,62,63,64,91,92,93,94,124] (k.1.toUInt8))=forb (k.1:Int):=by decide +kernel
theorem forb_far{r:Int}(h:r<0∨127<r):forb r=false:=by
 unfold forb
 rw[decide_eq_false_iff_not]
 intro hm
 simp only[List.mem_cons,List.not_mem_nil,or_false]at hm
 omega
theorem nh_ascii:∀ (i:Nat) (h:i<NH.size),(NH[i]'h).toNat<128:=by
 have:∀ i:Fin 17,(NH[i.1]'(Nat.lt_of_lt_of_le i.2 (by decide))).toNat<128:=by decide
 intro i h
 exact this ⟨i,h⟩
theorem Contains_NH(r:Int)(w:World):Calls Tryz.prog 18 #[.string NH,.int .i32 r] w (Says (forb r) w):=by
 have key:∃ I:Int,decide (0<=I)=forb r/\∀ W,Calls Tryz.prog 62 #[.string NH,.int .i32 r] W (Numb I W):=by
  by_cases h:0<=r/\r<128
  ·refine⟨_, ?_,fun W=>IndexRune_near NH r h.1 h.2 W⟩
   obtain⟨k,rfl⟩:=Int.eq_ofNat_of_zero_le h.1
   have:=never_near ⟨k,by omega⟩
   exact this
  ·have h':r<0∨127<r:=by omega
   rw[forb_far h']
   refine⟨-1,rfl,fun W => ?_⟩
   by_cases hf:r=65533
   ·subst hf
    exact IndexRune_fffd NH nh_ascii W
   ·cases hv:sca r with
    | false=>exact IndexRune_bad NH r h' hf hv W
    | true =>
     have h0:127<r:=by
      have:=of_decide_eq_true hv
      omega
     exact IndexRune_far NH (by decide) (by decide) nh_ascii r h0 hf hv W
 obtain⟨I,hI,HC⟩:=key
 have HI:=Lib.hid HC
 obtain⟨q,hq⟩:∃ q,forb r=q:=⟨_,rfl⟩
 rw[hq]at hI ⊢
 clear HC hq
 generalize NH=s at HI
 go_enter Tryz.func18,Tryz.ntmps18
 go_wp2_with(first|(go_at_call 62;refine (HI.out _).mono ?_;rintro e w1 ⟨rfl,hB⟩)|fail)
 go_ret
 exact⟨rfl,hB⟩
theorem ForbH_any(r:Int)(w:World):Calls Tryz.prog 52 #[.int .i32 r] w (Says (forb r) w):=by
 have HC:=Lib.hid (fun W=>Contains_NH r W)
 go_enter Tryz.func52,Tryz.ntmps52
 go_wp2_with(first|(go_at_call 18;refine (HC.out _).mono ?_;rintro e w1 ⟨rfl,hB⟩)|fail)
 go_ret
 exact⟨rfl,hB⟩
theorem ForbD_any(r:Int)(w:World):Calls Tryz.prog 51 #[.int .i32 r] w (Says (forbD r) w):=by
 have HC:=Lib.hid (fun W=>ForbH_any r W)
 have HD:Hid (forbD r=(forb r||decide (0<=r/\r<=31)||r==37||r==127)):=Lib.hid rfl
 obtain⟨q,hq⟩:∃ q,forb r=q:=⟨_,rfl⟩
 rw[hq]at HC HD
 clear hq
 have hcs:q=true∨(q=false/\0<=r/\r<=31)∨(q=false/\¬ (0<=r/\r<=31)/\r=37)∨(q=false/\¬ (0<=r/\r<=31)/\r≠37/\r=127)∨(q=false/\r<0/\r≠37/\r≠127)∨(q=false/\31<r/\r≠37/\r≠127):=by
  cases q
  ·by_cases h:0<=r/\r<=31
   ·exact .inr (.inl ⟨rfl,h.1,h.2⟩)
   ·by_cases h2:r=37
    ·exact .inr (.inr (.inl ⟨rfl,h,h2⟩))
    ·by_cases h3:r=127
     ·exact .inr (.inr (.inr (.inl ⟨rfl,h,h2,h3⟩)))
     ·by_cases h4:r<0
      ·exact .inr (.inr (.inr (.inr (.inl ⟨rfl,h4,h2,h3⟩))))
      ·exact .inr (.inr (.inr (.inr (.inr ⟨rfl,by omega,h2,h3⟩))))
  ·exact .inl rfl
 rcases hcs with rfl|⟨rfl,h1,h2⟩|⟨rfl,h1,rfl⟩|⟨rfl,h1,h2,rfl⟩|⟨rfl,h1,h2,h3⟩|⟨rfl,h1,h2,h3⟩
 ·have HE:Hid (forbD r=true):=Lib.hid (by rw[HD.out];simp)
  rw[HE.out]
  clear HE HD
  go_enter Tryz.func51,Tryz.ntmps51
  go_wp2_with(first|(go_at_call 52;refine (HC.out _).mono ?_;rintro e w1 ⟨rfl,hB⟩)|fail)
  go_ret
  exact⟨rfl,hB⟩
 ·have HE:Hid (forbD r=true):=Lib.hid (by rw[HD.out,decide_eq_true ⟨h1,h2⟩];simp)
  rw[HE.out]
  have d1:decide (0<=r)=true:=decide_eq_true h1
  have d2:decide (r<=31)=true:=decide_eq_true h2
  clear HE HD
  go_enter Tryz.func51,Tryz.ntmps51
  go_wp2_with(first|(go_at_call 52;refine (HC.out _).mono ?_;rintro e w1 ⟨rfl,hB⟩)|fail)
  go_ret
  exact⟨rfl,hB⟩
 ·have HE:Hid (forbD 37=true):=Lib.hid (by decide)
  rw[HE.out]
  clear HE HD
  go_enter Tryz.func51,Tryz.ntmps51
  go_wp2_with(first|(go_at_call 52;refine (HC.out _).mono ?_;rintro e w1 ⟨rfl,hB⟩)|fail)
  go_ret
  exact⟨rfl,hB⟩
 ·have HE:Hid (forbD 127=true):=Lib.hid (by decide)
  rw[HE.out]
  clear HE HD
  go_enter Tryz.func51,Tryz.ntmps51
  go_wp2_with(first|(go_at_call 52;refine (HC.out _).mono ?_;rintro e w1 ⟨rfl,hB⟩)|fail)
  go_ret
  exact⟨rfl,hB⟩
 ·have h0:¬ 0<=r:=by omega
  have HE:Hid (forbD r=false):=Lib.hid (by rw[HD.out,decide_eq_false (fun h=>h0 h.1),beq_eq_false_iff_ne.2 h2,beq_eq_false_iff_ne.2 h3];rfl)
  rw[HE.out]
  have d1:decide (0<=r)=false:=decide_eq_false h0
  have e1:(r==37)=false:=beq_eq_false_iff_ne.2 h2
  have e2:(r==127)=false:=beq_eq_false_iff_ne.2 h3
  clear HE HD
  go_enter Tryz.func51,Tryz.ntmps51
  go_wp2_with(first|(go_at_call 52;refine (HC.out _).mono ?_;rintro e w1 ⟨rfl,hB⟩)|fail)
  go_ret
  exact⟨rfl,hB⟩
 ·have h0:¬ r<=31:=by omega
  have h0':0<=r:=by omega
  have HE:Hid (forbD r=false):=Lib.hid (by rw[HD.out,decide_eq_false (fun h=>h0 h.2),beq_eq_false_iff_ne.2 h2,beq_eq_false_iff_ne.2 h3];rfl)
  rw[HE.out]
  have d1:decide (0<=r)=true:=decide_eq_true h0'
  have d2:decide (r<=31)=false:=decide_eq_false h0
  have e1:(r==37)=false:=beq_eq_false_iff_ne.2 h2
  have e2:(r==127)=false:=beq_eq_false_iff_ne.2 h3
  clear HE HD
  go_enter Tryz.func51,Tryz.ntmps51
  go_wp2_with(first|(go_at_call 52;refine (HC.out _).mono ?_;rintro e w1 ⟨rfl,hB⟩)|fail)
  go_ret
  exact⟨rfl,hB⟩
end Go.Proofs.YtkibdkfdffkkfaaGreatDoor.Hst
namespace Go.Proofs.YtkibdkfdffkkfaaGreatDoor
open Go.RowKit
def straight (P:Program):List Oper->Act->World->Option (Act × World)
 | [],a,w=>some (a,w)
 | o :: rest, a, w => match o.guard with
  | some _=>none
  | none => match (execOp a.eval o).run P w with
   | .ok (.value v) w'=>straight P rest (a.put o.dst v) w'
   | _=>none
theorem wpList_straight{P:Program}{ops:Array Oper}{Q:Exit->Act->World->Prop}:∀ (l:List Oper) (a:Act) (w:World) (a':Act) (w':World),straight P l a w=some (a',w')->Q .normal a' w'->wpList P ops Q l a w
 | [], a, w, a', w', h, hQ => by
  simp only[straight,Option.some.injEq,Prod.mk.injEq]at h
  obtain⟨rfl,rfl⟩:=h
  exact hQ
 | o :: rest, a, w, a', w', h, hQ => by
  unfold straight at h
  split at h
  ·cases h
  ·rename_i hg
   split at h
   ·rename_i v w1 hr
    refine wpList_plain hg fun K hK => ?_
    unfold Oper.wp
    rw[hr]
    exact hK _ _ (wpList_straight rest _ _ a' w' h hQ)
   ·cases h
end Go.Proofs.YtkibdkfdffkkfaaGreatDoor
namespace Go.Proofs.YtkibdkfdffkkfaaGreatDoor
open Go.RowKit Norm
namespace Norm
def tabP:List (Int × Int × Int):=[(192,65,768),(193,65,769),(194,65,770),(195,65,771),(196,65,776),(197,65,778),(199,67,807),(200,69,768),(201,69,769),(202,69,770),(203,69,776),(204,73,768),(205,73,769),(206,73,770),(207,73,776),(209,78,771),(210,79,768),(211,79,769),(212,79,770),(213,79,771),(214,79,776),(217,85,768),(218,85,769),(219,85,770),(220,85,776),(221,89,769),(224,97,768),(225,97,769),(226,97,770),(227,97,771),(228,97,776),(229,97,778),(231,99,807),(232,101,768),(233,101,769),(234,101,770),(235,101,776),(236,105,768),(237,105,769),(238,105,770),(239,105,776),(241,110,771),(242,111,768),(243,111,769),(244,111,770),(245,111,771),(246,111,776),(249,117,768),(250,117,769),(251,117,770),(252,117,776),(253,121,769),(255,121,776),(471,220,769),(472,252,769),(902,913,769),(904,917,769),(905,919,769),(906,921,769),(940,945,769),(941,949,769),(942,951,769),(943,953,769),(1025,1045,776),(1105,1077,776),(1570,1575,1619),(1571,1575,1620),(1572,1608,1620),(1573,1575,1621),(1574,1610,1620),(2345,2344,2364),(2353,2352,2364),(2356,2355,2364),(12364,12363,12441),(12366,12365,12441),(12368,12367,12441),(12370,12369,12441),(12372,12371,12441),(12460,12459,12441),(12462,12461,12441),(12464,12463,12441)]
end Norm
def PC:Array Value:=(tabP.flatMap fun p=>[Value.int .i32 p.1,.int .i32 p.2.1,.int .i32 p.2.2]).toArray
def PZ:Array Value:=(List.replicate 243 (Value.int .i32 0)).toArray
theorem wpList_straight_then{P:Program}{ops:Array Oper}{Q:Exit->Act->World->Prop}(l2:List Oper):∀ (l:List Oper) (a:Act) (w:World) (a':Act) (w':World),straight P l a w=some (a',w')->wpList P ops Q l2 a' w'->wpList P ops Q (l++l2) a w
 | [], a, w, a', w', h, hQ => by
  simp only[straight,Option.some.injEq,Prod.mk.injEq]at h
  obtain⟨rfl,rfl⟩:=h
  exact hQ
 | o :: rest, a, w, a', w', h, hQ => by
  unfold straight at h
  split at h
  ·cases h
  ·rename_i hg
   split at h
   ·rename_i v w1 hr
    refine wpList_plain hg fun K hK => ?_
    unfold Oper.wp
    rw[hr]
    exact hK _ _ (wpList_straight_then l2 rest _ _ a' w' h hQ)
   ·cases h
theorem wpList_straight_n{P:Program}{ops:Array Oper}{Q:Exit->Act->World->Prop}(n:Nat)(l:List Oper)(a:Act)(w:World)(a':Act)(w':World)(h:straight P (l.take n) a w=some (a',w'))(hQ:wpList P ops Q (l.drop n) a' w'):wpList P ops Q l a w:=by
 have:=wpList_straight_then (l.drop n) (l.take n) a w a' w' h hQ
 rwa [List.take_append_drop]at this
theorem setRow_alloc(w:World)(t:TypeId)(old cs:Array Value):(w.alloc (.cells old t)).setRow w.heap.size cs=w.alloc (.cells cs t):=by
 unfold World.setRow World.alloc
 congr 1
 apply Array.ext
 ·simp
 ·intro i h1 h2
  simp only[Array.getElem_modify]
  split
  ·rename_i hk;subst hk;simp
  ·rename_i hk
   simp only[Array.size_modify,Array.size_push]at h1
   rw[Array.getElem_push_lt (by omega),Array.getElem_push_lt (by omega)]
theorem pairs_any(w:World):Calls Tryz.prog 279 #[] w fun e w'=>e = .returned (.agg PC)/\w'=w.alloc (.cells PC 311):=by
 refine calls_of_wp Tryz.func279 rfl ?_
 refine wp_seq (wp_region_list (wpList_straight _ _ _ _ _ (show straight _ _ _ _=some ({ tmps:=#[.pointer (some ⟨w.heap.size,0,none⟩),undef,undef,undef,undef,undef,undef,undef,undef,undef,undef,undef,undef,undef,undef,undef,undef,undef,undef,undef,undef,undef,undef,undef,undef,undef,undef,undef,undef,undef,undef,undef,undef,undef,undef,undef,undef,undef,undef,undef,undef,undef,undef,undef,undef,undef,undef,undef,undef,undef,undef,undef,undef,undef,undef,undef,undef,undef,undef,undef,undef,undef,undef,undef,undef,undef,undef,undef,undef,undef,undef,undef,undef,undef,undef,undef,undef,undef,undef,undef,undef,undef,undef],defers:=[] },w.alloc (.cells PZ 311)) from by kernel_rfl) ?_))
 refine wp_seq (wp_region_list (wpList_straight_n 82 _ _ _ _ _ (show straight _ _ _ _=some ({ tmps:=#[.pointer (some ⟨w.heap.size,0,none⟩),.agg #[.int .i32 192,.int .i32 65,.int .i32 768],.agg #[.int .i32 193,.int .i32 65,.int .i32 769],.agg #[.int .i32 194,.int .i32 65,.int .i32 770],.agg #[.int .i32 195,.int .i32 65,.int .i32 771],.agg #[.int .i32 196,.int .i32 65,.int .i32 776],.agg #[.int .i32 197,.int .i32 65,.int .i32 778],.agg #[.int .i32 199,.int .i32 67,.int .i32 807],.agg #[.int .i32 200,.int .i32 69,.int .i32 768],.agg #[.int .i32 201,.int .i32 69,.int .i32 769],.agg #[.int .i32 202,.int .i32 69,.int .i32 770],.agg #[.int .i32 203,.int .i32 69,.int .i32 776],.agg #[.int .i32 204,.int .i32 73,.int .i32 768],.agg #[.int .i32 205,.int .i32 73,.int .i32 769],.agg #[.int .i32 206,.int .i32 73,.int .i32 770],.agg #[.int .i32 207,.int .i32 73,.int .i32 776],.agg #[.int .i32 209,.int .i32 78,.int .i32 771],.agg #[.int .i32 210,.int .i32 79,.int .i32 768],.agg #[.int .i32 211,.int .i32 79,.int .i32 769],.agg #[.int .i32 212,.int .i32 79,.int .i32 770],.agg #[.int .i32 213,.int .i32 79,.int .i32 771],.agg #[.int .i32 214,.int .i32 79,.int .i32 776],.agg #[.int .i32 217,.int .i32 85,.int .i32 768],.agg #[.int .i32 218,.int .i32 85,.int .i32 769],.agg #[.int .i32 219,.int .i32 85,.int .i32 770],.agg #[.int .i32 220,.int .i32 85,.int .i32 776],.agg #[.int .i32 221,.int .i32 89,.int .i32 769],.agg #[.int .i32 224,.int .i32 97,.int .i32 768],.agg #[.int .i32 225,.int .i32 97,.int .i32 769],.agg #[.int .i32 226,.int .i32 97,.int .i32 770],.agg #[.int .i32 227,.int .i32 97,.int .i32 771],.agg #[.int .i32 228,.int .i32 97,.int .i32 776],.agg #[.int .i32 229,.int .i32 97,.int .i32 778],.agg #[.int .i32 231,.int .i32 99,.int .i32 807],.agg #[.int .i32 232,.int .i32 101,.int .i32 768],.agg #[.int .i32 233,.int .i32 101,.int .i32 769],.agg #[.int .i32 234,.int .i32 101,.int .i32 770],.agg #[.int .i32 235,.int .i32 101,.int .i32 776],.agg #[.int .i32 236,.int .i32 105,.int .i32 768],.agg #[.int .i32 237,.int .i32 105,.int .i32 769],.agg #[.int .i32 238,.int .i32 105,.int .i32 770],.agg #[.int .i32 239,.int .i32 105,.int .i32 776],.agg #[.int .i32 241,.int .i32 110,.int .i32 771],.agg #[.int .i32 242,.int .i32 111,.int .i32 768],.agg #[.int .i32 243,.int .i32 111,.int .i32 769],.agg #[.int .i32 244,.int .i32 111,.int .i32 770],.agg #[.int .i32 245,.int .i32 111,.int .i32 771],.agg #[.int .i32 246,.int .i32 111,.int .i32 776],.agg #[.int .i32 249,.int .i32 117,.int .i32 768],.agg #[.int .i32 250,.int .i32 117,.int .i32 769],.agg #[.int .i32 251,.int .i32 117,.int .i32 770],.agg #[.int .i32 252,.int .i32 117,.int .i32 776],.agg #[.int .i32 253,.int .i32 121,.int .i32 769],.agg #[.int .i32 255,.int .i32 121,.int .i32 776],.agg #[.int .i32 471,.int .i32 220,.int .i32 769],.agg #[.int .i32 472,.int .i32 252,.int .i32 769],.agg #[.int .i32 902,.int .i32 913,.int .i32 769],.agg #[.int .i32 904,.int .i32 917,.int .i32 769],.agg #[.int .i32 905,.int .i32 919,.int .i32 769],.agg #[.int .i32 906,.int .i32 921,.int .i32 769],.agg #[.int .i32 940,.int .i32 945,.int .i32 769],.agg #[.int .i32 941,.int .i32 949,.int .i32 769],.agg #[.int .i32 942,.int .i32 951,.int .i32 769],.agg #[.int .i32 943,.int .i32 953,.int .i32 769],.agg #[.int .i32 1025,.int .i32 1045,.int .i32 776],.agg #[.int .i32 1105,.int .i32 1077,.int .i32 776],.agg #[.int .i32 1570,.int .i32 1575,.int .i32 1619],.agg #[.int .i32 1571,.int .i32 1575,.int .i32 1620],.agg #[.int .i32 1572,.int .i32 1608,.int .i32 1620],.agg #[.int .i32 1573,.int .i32 1575,.int .i32 1621],.agg #[.int .i32 1574,.int .i32 1610,.int .i32 1620],.agg #[.int .i32 2345,.int .i32 2344,.int .i32 2364],.agg #[.int .i32 2353,.int .i32 2352,.int .i32 2364],.agg #[.int .i32 2356,.int .i32 2355,.int .i32 2364],.agg #[.int .i32 12364,.int .i32 12363,.int .i32 12441],.agg #[.int .i32 12366,.int .i32 12365,.int .i32 12441],.agg #[.int .i32 12368,.int .i32 12367,.int .i32 12441],.agg #[.int .i32 12370,.int .i32 12369,.int .i32 12441],.agg #[.int .i32 12372,.int .i32 12371,.int .i32 12441],.agg #[.int .i32 12460,.int .i32 12459,.int .i32 12441],.agg #[.int .i32 12462,.int .i32 12461,.int .i32 12441],.agg #[.int .i32 12464,.int .i32 12463,.int .i32 12441],.agg PC],defers:=[] },w.alloc (.cells PZ 311)) from by kernel_rfl) ?_))
 refine wpList_plain rfl fun K hK => ?_
 refine wp_store_row 311 _ _ rfl w.heap.size PC rfl rfl 311 PZ (heap_alloc_new w _) (by kernel_rfl) (by kernel_rfl) (by kernel_rfl) ?_
 refine hK _ _ ?_
 rw[setRow_alloc]
 show Code.wp _ _ _ _ _
 refine wp_ret ?_
 refine bodyPost_ret (results_cell_row rfl _ _ w.heap.size 311 PC (0,0) _ rfl (heap_alloc_new w _) Tryz.underlying311 (by kernel_rfl) (by kernel_rfl)) rfl ?_
 exact⟨rfl,rfl⟩
end Go.Proofs.YtkibdkfdffkkfaaGreatDoor
