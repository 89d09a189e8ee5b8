import Derived.Test.YtkibdkfdffkkfaaGreatDoorPk13
import Derived.Lib.ConvBytes
import Derived.BigCall
import Derived.BigGuard
import Derived.Lib.AtoiErrMem
set_option maxRecDepth 100000
set_option maxHeartbeats 8000000
namespace Go.Proofs.YtkibdkfdffkkfaaGreatDoor
open Go.RowKit Ucd
theorem lower_up(c:Int)(w:World)(h0:65<=c)(h1:c<=70):Calls Tryz.prog 299 #[.int .u8 c] w fun e w'=>e = .returned (.int .u8 (c+32))/\w=w':=by
 go_enter Tryz.func299,Tryz.ntmps299
 go_wp2
 go_ret
 refine⟨ret_int ?_,rfl⟩
 have:c=65∨c=66∨c=67∨c=68∨c=69∨c=70:=by omega
 rcases this with rfl|rfl|rfl|rfl|rfl|rfl<;>decide
theorem ParseUint10(l:List UInt8)(w:World)(hl:isNum 10 l=true) :
  Calls Tryz.prog 267 #[.string (bst l),.int .i64 10,.int .i64 32] w fun e w'=>e = .returned (.tuple #[.int .u64 (num 10 0 l),.nilIface])/\Below w.heap.size w w':=by
 have hl':=hl
 unfold isNum at hl'
 simp only[Bool.and_eq_true,decide_eq_true_eq]at hl'
 obtain⟨⟨h1,h4⟩,hall⟩:=hl'
 have HA:=Lib.hid (List.all_eq_true.1 hall)
 clear hall hl
 obtain⟨t,ht⟩:∃ t,bst l=t:=⟨_,rfl⟩
 have hts:t.size=l.length:=by rw[<-ht,bst_size]
 have hne:t.size≠0:=by omega
 have hemp:t.toList.isEmpty=false:=by
  rw[<-decide_eq_emptyBytes]
  exact decide_eq_false (fun h=>hne (by rw[h];rfl))
 have hcv:=Lib.run_convert_string_bytes (P:=Tryz.prog) w 9 40 5 t (u:=.string) Tryz.underlying9 Tryz.underlying40 Tryz.underlying5
 have hB:∀ j,j<l.length->(Lib.bytesWorld w 5 t).cell? ⟨w.heap.size,j,none⟩=some (.int .u8 (l.getD j 0).toNat):=fun j hj=>by
  have:=Lib.bytesWorld_cell w 5 t j (by omega)
  rw[<-ht]at this ⊢
  exact this
 have hbe:=Lib.bytesWorld_below w 5 t
 obtain⟨W1,hW1⟩:∃ W1,W1=Lib.bytesWorld w 5 t:=⟨_,rfl⟩
 rw[<-hW1]at hcv hB hbe
 rw[ht]
 clear hW1 ht
 have HB:=Lib.hid hB
 clear hB
 rw[hts]at hcv
 clear hts hne
 go_enter Tryz.func267,Tryz.ntmps267
 go_wp2
 go_loop [12,13,101] (fun vu vn vi => ∃ (k:Nat) (a:Int),vu = .bool false/\vn = .int .u64 a/\vi = .int .i64 k/\k<=l.length/\Hid (∃ acc:Nat,a=(acc:Int)/\acc<bd k/\num 10 0 l=num 10 acc (l.drop k)))
  (fun _ _ vi=>l.length-(intOf vi).toNat)
 case atStart=>exact⟨0,0,rfl,rfl,rfl,by omega,Lib.hid ⟨0,rfl,by decide,rfl⟩⟩
 case round =>
  obtain⟨k,a,rfl,rfl,rfl,hk,hh⟩:=hrel
  obtain⟨acc,ha,hacc,hdec⟩:=hh.out
  clear hh
  have hacc':=bd_le hacc
  have a0:0<=a:=by omega
  have a1:a<65536:=by omega
  by_cases hkn:k<l.length
  ·have hc:=HB.out k hkn
   have hdrop:l.drop k=l[k]'hkn::l.drop (k+1):=List.drop_eq_getElem_cons hkn
   have hget:l.getD k 0=l[k]'hkn:=by simp[List.getD,List.getElem?_eq_getElem hkn]
   have hdg:=HA.out _ (List.getElem_mem hkn)
   rw[hdrop]at hdec
   rw[hget]at hc
   generalize l[k]'hkn=c at hc hdec hdg
   have hc256:c.toNat<256:=c.toNat_lt
   have hdl:=isDig_lt hdg (by decide)
   have HN:Hid (∃ acc':Nat,a*10+(dig c:Int)=(acc':Int)/\acc'<bd (k+1)/\num 10 0 l=num 10 acc' (l.drop (k+1))):=Lib.hid ⟨acc*10+dig c,by rw[ha];simp,bd_step (by omega) hacc (by decide) hdl,hdec⟩
   clear hdrop hget hdec hacc hacc' ha HB HA
   rcases isDig_cases hdg with ⟨hd0,hd1,hd⟩|⟨h16,hd0,hd1,hd⟩
   ·have hD:((dig c:Nat):Int)=(c.toNat:Int)-48:=by omega
    rw[hD]at HN
    clear hdg hdl hd hD
    go_wp2
    refine⟨⟨k+1,a*10+((c.toNat:Int)-48),rfl,(by first|rfl|(congr 1;omega)),(by first|rfl|(congr 1;omega)),by omega,HN⟩,by simp[intOf];omega⟩
   ·omega
  ·have hkk:k=l.length:=by omega
   subst hkk
   have hF:num 10 acc (l.drop l.length)=acc:=by rw[List.drop_eq_nil_of_le (by omega)];rfl
   rw[hF]at hdec
   have HD:=Lib.hid hdec
   clear hacc hF a0 a1 hacc' hdec HA HB
   subst ha
   go_wp2
   go_ret2
   exact⟨by rw[HD.out];rfl,hbe⟩
theorem ParseUint16(l:List UInt8)(w:World)(hl:isNum 16 l=true) :
  Calls Tryz.prog 267 #[.string (bst l),.int .i64 16,.int .i64 32] w fun e w'=>e = .returned (.tuple #[.int .u64 (num 16 0 l),.nilIface])/\Below w.heap.size w w':=by
 have hl':=hl
 unfold isNum at hl'
 simp only[Bool.and_eq_true,decide_eq_true_eq]at hl'
 obtain⟨⟨h1,h4⟩,hall⟩:=hl'
 have HA:=Lib.hid (List.all_eq_true.1 hall)
 clear hall hl
 obtain⟨t,ht⟩:∃ t,bst l=t:=⟨_,rfl⟩
 have hts:t.size=l.length:=by rw[<-ht,bst_size]
 have hne:t.size≠0:=by omega
 have hemp:t.toList.isEmpty=false:=by
  rw[<-decide_eq_emptyBytes]
  exact decide_eq_false (fun h=>hne (by rw[h];rfl))
 have hcv:=Lib.run_convert_string_bytes (P:=Tryz.prog) w 9 40 5 t (u:=.string) Tryz.underlying9 Tryz.underlying40 Tryz.underlying5
 have hB:∀ j,j<l.length->(Lib.bytesWorld w 5 t).cell? ⟨w.heap.size,j,none⟩=some (.int .u8 (l.getD j 0).toNat):=fun j hj=>by
  have:=Lib.bytesWorld_cell w 5 t j (by omega)
  rw[<-ht]at this ⊢
  exact this
 have hbe:=Lib.bytesWorld_below w 5 t
 obtain⟨W1,hW1⟩:∃ W1,W1=Lib.bytesWorld w 5 t:=⟨_,rfl⟩
 rw[<-hW1]at hcv hB hbe
 rw[ht]
 clear hW1 ht
 have HB:=Lib.hid hB
 clear hB
 rw[hts]at hcv
 clear hts hne
 go_enter Tryz.func267,Tryz.ntmps267
 go_wp2
 go_loop [12,13,101] (fun vu vn vi => ∃ (k:Nat) (a:Int),vu = .bool false/\vn = .int .u64 a/\vi = .int .i64 k/\k<=l.length/\Hid (∃ acc:Nat,a=(acc:Int)/\acc<bd k/\num 16 0 l=num 16 acc (l.drop k)))
  (fun _ _ vi=>l.length-(intOf vi).toNat)
 case atStart=>exact⟨0,0,rfl,rfl,rfl,by omega,Lib.hid ⟨0,rfl,by decide,rfl⟩⟩
 case round =>
  obtain⟨k,a,rfl,rfl,rfl,hk,hh⟩:=hrel
  obtain⟨acc,ha,hacc,hdec⟩:=hh.out
  clear hh
  have hacc':=bd_le hacc
  have a0:0<=a:=by omega
  have a1:a<65536:=by omega
  by_cases hkn:k<l.length
  ·have hc:=HB.out k hkn
   have hdrop:l.drop k=l[k]'hkn::l.drop (k+1):=List.drop_eq_getElem_cons hkn
   have hget:l.getD k 0=l[k]'hkn:=by simp[List.getD,List.getElem?_eq_getElem hkn]
   have hdg:=HA.out _ (List.getElem_mem hkn)
   rw[hdrop]at hdec
   rw[hget]at hc
   generalize l[k]'hkn=c at hc hdec hdg
   have hc256:c.toNat<256:=c.toNat_lt
   have hdl:=isDig_lt hdg (by decide)
   have HN:Hid (∃ acc':Nat,a*16+(dig c:Int)=(acc':Int)/\acc'<bd (k+1)/\num 16 0 l=num 16 acc' (l.drop (k+1))):=Lib.hid ⟨acc*16+dig c,by rw[ha];simp,bd_step (by omega) hacc (by decide) hdl,hdec⟩
   clear hdrop hget hdec hacc hacc' ha HB HA
   rcases isDig_cases hdg with ⟨hd0,hd1,hd⟩|⟨h16,hd0,hd1,hd⟩
   ·have hD:((dig c:Nat):Int)=(c.toNat:Int)-48:=by omega
    rw[hD]at HN
    clear hdg hdl hd hD
    go_wp2
    refine⟨⟨k+1,a*16+((c.toNat:Int)-48),rfl,(by first|rfl|(congr 1;omega)),(by first|rfl|(congr 1;omega)),by omega,HN⟩,by simp[intOf];omega⟩
   ·have hD:((dig c:Nat):Int)=(c.toNat:Int)+32-97+10:=by omega
    rw[hD]at HN
    clear hdg hdl hd hD h16
    go_wp2_with(go_at_call 299;refine (lower_up _ _ (by omega) (by omega)).mono ?_;rintro e w' ⟨rfl,rfl⟩)
    refine⟨⟨k+1,_,rfl,rfl,(by first|rfl|(congr 1;omega)),by omega,HN⟩,by simp[intOf];omega⟩
  ·have hkk:k=l.length:=by omega
   subst hkk
   have hF:num 16 acc (l.drop l.length)=acc:=by rw[List.drop_eq_nil_of_le (by omega)];rfl
   rw[hF]at hdec
   have HD:=Lib.hid hdec
   clear hacc hF a0 a1 hacc' hdec HA HB
   subst ha
   go_wp2
   go_ret2
   exact⟨by rw[HD.out];rfl,hbe⟩
theorem ParseIntI10(l:List UInt8)(w:World)(hl:isNum 10 l=true) :
  Calls Tryz.prog 387 #[.string (bst l),.int .i64 10,.int .i64 32] w fun e w'=>e = .returned (.tuple #[.int .i64 (num 10 0 l),.nilIface])/\Below w.heap.size w w':=by
 have hl':=hl
 unfold isNum at hl'
 simp only[Bool.and_eq_true,decide_eq_true_eq]at hl'
 obtain⟨⟨h1,h4⟩,hall⟩:=hl'
 cases l with
 | nil=>simp at h1
 | cons c m =>
  have hP:=ParseUint10 (c::m) w hl
  have hn:=num_small (b:=10) (by decide) hl
  obtain⟨n,hn'⟩:∃ n:Int,n=(num 10 0 (c::m):Int):=⟨_,rfl⟩
  rw[<-hn']at hP ⊢
  have n0:0<=n:=by omega
  have n1:n<65536:=by omega
  clear hn hn'
  rw[List.all_cons,Bool.and_eq_true]at hall
  have hdg:=isDig_cases hall.1
  have c0:48<=c.toNat:=by omega
  have HP:=Lib.hid hP
  clear hall hdg hl hP
  have hg:∀ h,(bst (c::m))[0]'h=c:=fun h=>rfl
  have hs:(bst (c::m)).size=m.length+1:=bst_size _
  obtain⟨t,ht⟩:∃ t,bst (c::m)=t:=⟨_,rfl⟩
  rw[ht]at hs hg HP ⊢
  have hs0:0<t.size:=by omega
  have hg:=hg hs0
  have hemp:t.toList.isEmpty=false:=by
   rw[<-decide_eq_emptyBytes]
   exact decide_eq_false (fun h=>by rw[h]at hs;simp at hs)
  have i1:((c.toNat:Int)==43)=false:=by simp;omega
  have i2:((c.toNat:Int)==45)=false:=by simp;omega
  clear ht
  go_enter Tryz.func387,Tryz.ntmps387
  go_wp2_with(go_at_call 267;((with_reducible refine (Hid.out HP).mono ?_);rintro e w' ⟨rfl,hb⟩))
  go_ret2
  exact⟨rfl,hb⟩
theorem ParseInt10(l:List UInt8)(w:World)(hl:isNum 10 l=true) :
  Calls Tryz.prog 364 #[.string (bst l),.int .i64 10,.int .i64 32] w fun e w'=>e = .returned (.tuple #[.int .i64 (num 10 0 l),.nilIface])/\Below w.heap.size w w':=by
 go_enter Tryz.func364,Tryz.ntmps364
 go_wp2_with(go_at_call 387;refine (ParseIntI10 l _ hl).mono ?_;rintro e w' ⟨rfl,hb⟩)
 go_ret2
 exact⟨rfl,hb⟩
theorem number10(l:List UInt8)(w:World)(hs:l.length<=1000)(hl:isNum 10 (Lib.trimLeftB l 32)=true) :
  Calls Tryz.prog 322 #[.string (bst l),.int .i64 10] w fun e w'=>e = .returned (.int .i64 (num 10 0 (Lib.trimLeftB l 32)))/\Below w.heap.size w w':=by
 go_enter Tryz.func322,Tryz.ntmps322
 go_wp2_with(first|(go_at_call 365;refine (TrimLeft_any l _ hs).mono ?_;rintro e w' ⟨rfl,rfl⟩)|(go_at_call 364;refine (ParseInt10 _ _ hl).mono ?_;rintro e w' ⟨rfl,hb⟩))
 go_ret
 exact⟨rfl,hb⟩
theorem ParseIntI16(l:List UInt8)(w:World)(hl:isNum 16 l=true) :
  Calls Tryz.prog 387 #[.string (bst l),.int .i64 16,.int .i64 32] w fun e w'=>e = .returned (.tuple #[.int .i64 (num 16 0 l),.nilIface])/\Below w.heap.size w w':=by
 have hl':=hl
 unfold isNum at hl'
 simp only[Bool.and_eq_true,decide_eq_true_eq]at hl'
 obtain⟨⟨h1,h4⟩,hall⟩:=hl'
 cases l with
 | nil=>simp at h1
 | cons c m =>
  have hP:=ParseUint16 (c::m) w hl
  have hn:=num_small (b:=16) (by decide) hl
  obtain⟨n,hn'⟩:∃ n:Int,n=(num 16 0 (c::m):Int):=⟨_,rfl⟩
  rw[<-hn']at hP ⊢
  have n0:0<=n:=by omega
  have n1:n<65536:=by omega
  clear hn hn'
  rw[List.all_cons,Bool.and_eq_true]at hall
  have hdg:=isDig_cases hall.1
  have c0:48<=c.toNat:=by omega
  have HP:=Lib.hid hP
  clear hall hdg hl hP
  have hg:∀ h,(bst (c::m))[0]'h=c:=fun h=>rfl
  have hs:(bst (c::m)).size=m.length+1:=bst_size _
  obtain⟨t,ht⟩:∃ t,bst (c::m)=t:=⟨_,rfl⟩
  rw[ht]at hs hg HP ⊢
  have hs0:0<t.size:=by omega
  have hg:=hg hs0
  have hemp:t.toList.isEmpty=false:=by
   rw[<-decide_eq_emptyBytes]
   exact decide_eq_false (fun h=>by rw[h]at hs;simp at hs)
  have i1:((c.toNat:Int)==43)=false:=by simp;omega
  have i2:((c.toNat:Int)==45)=false:=by simp;omega
  clear ht
  go_enter Tryz.func387,Tryz.ntmps387
  go_wp2_with(go_at_call 267;((with_reducible refine (Hid.out HP).mono ?_);rintro e w' ⟨rfl,hb⟩))
  go_ret2
  exact⟨rfl,hb⟩
theorem ParseInt16(l:List UInt8)(w:World)(hl:isNum 16 l=true) :
  Calls Tryz.prog 364 #[.string (bst l),.int .i64 16,.int .i64 32] w fun e w'=>e = .returned (.tuple #[.int .i64 (num 16 0 l),.nilIface])/\Below w.heap.size w w':=by
 go_enter Tryz.func364,Tryz.ntmps364
 go_wp2_with(go_at_call 387;refine (ParseIntI16 l _ hl).mono ?_;rintro e w' ⟨rfl,hb⟩)
 go_ret2
 exact⟨rfl,hb⟩
theorem number16(l:List UInt8)(w:World)(hs:l.length<=1000)(hl:isNum 16 (Lib.trimLeftB l 32)=true) :
  Calls Tryz.prog 322 #[.string (bst l),.int .i64 16] w fun e w'=>e = .returned (.int .i64 (num 16 0 (Lib.trimLeftB l 32)))/\Below w.heap.size w w':=by
 go_enter Tryz.func322,Tryz.ntmps322
 go_wp2_with(first|(go_at_call 365;refine (TrimLeft_any l _ hs).mono ?_;rintro e w' ⟨rfl,rfl⟩)|(go_at_call 364;refine (ParseInt16 _ _ hl).mono ?_;rintro e w' ⟨rfl,hb⟩))
 go_ret
 exact⟨rfl,hb⟩
theorem category_any(l:List UInt8)(w:World):Calls Tryz.prog 323 #[.string (bst l)] w fun e w'=>e = .returned (.int .u8 (categoryF l:Nat))/\w=w':=by
 go_enter Tryz.func323,Tryz.ntmps323
 go_wp2
 all_goals go_ret
 all_goals exact⟨by simp only[categoryF, *,if_true,if_false,Bool.false_eq_true];rfl,rfl⟩
theorem explicit_any(l:List UInt8)(w:World):Calls Tryz.prog 367 #[.string (bst l)] w fun e w'=>e = .returned (.int .u8 (explicitF l:Nat))/\w=w':=by
 go_enter Tryz.func367,Tryz.ntmps367
 go_wp2
 all_goals go_ret
 all_goals exact⟨by simp only[explicitF, *,if_true,if_false,Bool.false_eq_true];rfl,rfl⟩
theorem bidi_any(l:List UInt8)(w:World):Calls Tryz.prog 325 #[.string (bst l)] w fun e w'=>e = .returned (.int .u8 (bidiF l:Nat))/\w=w':=by
 go_enter Tryz.func325,Tryz.ntmps325
 go_wp2_with(go_at_call 367;refine (explicit_any l _).mono ?_;rintro e w' ⟨rfl,rfl⟩)
 all_goals go_ret
 all_goals exact⟨by simp only[bidiF, *,if_true,if_false,Bool.false_eq_true];rfl,rfl⟩
theorem join_any(l:List UInt8)(w:World):Calls Tryz.prog 326 #[.string (bst l)] w fun e w'=>e = .returned (.int .u8 (joinF l:Nat))/\w=w':=by
 go_enter Tryz.func326,Tryz.ntmps326
 go_wp2
 all_goals go_ret
 all_goals exact⟨by simp only[joinF, *,if_true,if_false,Bool.false_eq_true];rfl,rfl⟩
theorem script_any(l:List UInt8)(w:World):Calls Tryz.prog 327 #[.string (bst l)] w fun e w'=>e = .returned (.int .u8 (scriptF l:Nat))/\w=w':=by
 go_enter Tryz.func327,Tryz.ntmps327
 go_wp2
 all_goals go_ret
 all_goals exact⟨by simp only[scriptF, *,if_true,if_false,Bool.false_eq_true];rfl,rfl⟩
theorem digits_any(l:List UInt8)(w:World):Calls Tryz.prog 328 #[.string (bst l)] w fun e w'=>e = .returned (.int .u8 (digitsF l:Nat))/\w=w':=by
 go_enter Tryz.func328,Tryz.ntmps328
 go_wp2
 all_goals go_ret
 all_goals exact⟨by simp only[digitsF, *,if_true,if_false,Bool.false_eq_true];rfl,rfl⟩
def rowFn (T:ByteArray):Go.Func :=
{ name := "fascia/ucd.row", origin := "", params := #[3], resultTypes := #[9], nfree := 0, ntmps := 9,
  results:=#[Go.ResultVar.tmp 2],
  body :=
    some
      ((Go.Code.region 0
            #[{ dst := some 2, op := Go.Op.assign (Go.Operand.const (Go.Value.string { data := #[] })), type := 9,
                pos := "row.go:11", after := #[], guard := none }]
            false).seq
        ((Go.Code.region 1
              #[{ dst := some 3, op := Go.Op.move (Go.Operand.tmp 0), type := 3, pos := "row.go:12", after := #[],
                  guard:=none },
                { dst := some 4,
                  op :=
                    Go.Op.binOp Go.BinOp.mul 3 (Go.Operand.tmp 3) (Go.Operand.const (Go.Value.int Go.IntKind.i64 52)) 3,
                  type := 3, pos := "row.go:12", after := #[{ on := 0, ground := Go.Ground.data }], guard := none },
                { dst := some 5, op := Go.Op.move (Go.Operand.tmp 0), type := 3, pos := "row.go:12", after := #[],
                  guard:=none },
                { dst := some 6,
                  op :=
                    Go.Op.binOp Go.BinOp.add 3 (Go.Operand.tmp 5) (Go.Operand.const (Go.Value.int Go.IntKind.i64 1)) 3,
                  type := 3, pos := "row.go:12", after := #[{ on := 2, ground := Go.Ground.data }], guard := none },
                { dst := some 7,
                  op :=
                    Go.Op.binOp Go.BinOp.mul 3 (Go.Operand.tmp 6) (Go.Operand.const (Go.Value.int Go.IntKind.i64 52)) 3,
                  type := 3, pos := "row.go:12", after := #[{ on := 3, ground := Go.Ground.data }], guard := none },
                { dst := some 8,
                  op :=
                    Go.Op.slice 9 (Go.Operand.const (Go.Value.string T))
                      (some (Go.Operand.tmp 4)) (some (Go.Operand.tmp 7)) none,
                  type := 9, pos := "row.go:12",
                  after:=#[{ on:=1,ground:=Go.Ground.data },{ on:=4,ground:=Go.Ground.data }],
                  guard:=none },
                { dst := some 2, op := Go.Op.assign (Go.Operand.tmp 8), type := 9, pos := "row.go:12",
                  after :=
                    #[{ on:=5,ground:=Go.Ground.data },{ on:=0,ground:=Go.Ground.phase },
                      { on:=1,ground:=Go.Ground.phase },{ on:=2,ground:=Go.Ground.phase },
                      { on:=3,ground:=Go.Ground.phase },{ on:=4,ground:=Go.Ground.phase },
                      { on:=5,ground:=Go.Ground.phase }],
                  guard:=none }]
              false).seq
          Go.Code.ret)),
  norace := false, file := "fascia/ucd/row.go", endLine := 13, tmpNames := #["i", "i", "", "", "", "", "", "", ""] }
theorem row_is:Tryz.f285=rowFn (bst text.flat):=by kernel_rfl
theorem row_fn:Tryz.prog.funcs[285]? = some (rowFn (bst text.flat)):=by rw[Tryz.func285,row_is]
theorem rowFn_n(T:ByteArray):(rowFn T).ntmps=9:=rfl
theorem row_gen(T:ByteArray)(hf:Tryz.prog.funcs[285]? = some (rowFn T))(hT:T.size=8632)(i:Nat)(w:World)(hi:i<166) :
  Calls Tryz.prog 285 #[.int .i64 i] w fun e w'=>e = .returned (.string (T.extract (i*52) ((i+1)*52)))/\w=w':=by
 go_enter hf,rowFn_n T
 go_wp2
 go_ret
 exact⟨rfl,rfl⟩
theorem row_any(i:Nat)(w:World)(hi:i<166):Calls Tryz.prog 285 #[.int .i64 i] w fun e w'=>e = .returned (.string (bst (rowL i)))/\w=w':=by
 have h:=row_gen _ row_fn (by rw[bst_size,flat_len];rfl) i w hi
 rw[Lib.extract_mk,show (i+1)*52-i*52=52 from by omega,row_at i hi]at h
 exact h
end Go.Proofs.YtkibdkfdffkkfaaGreatDoor
