import Derived.Test.YtkibdkfdffkkfaaGreatDoorPk33
import Derived.Test.YtkibdkfdffkkfaaGreatDoorPk36
import Derived.Test.YtkibdkfdffkkfaaGreatDoorPk40
set_option maxRecDepth 100000
set_option maxHeartbeats 8000000
namespace Go.Proofs.YtkibdkfdffkkfaaGreatDoor.Hst
open Go.RowKit Utf Remap Norm Pn Puny
def rdv (l:List Nat):Int ⊕ (List UInt8 × List Int) :=
 if aL (ofN l)=true then match sfv (ofN l) with
  | .inl e => .inl e
  | .inr o => .inr (dl (runesBytes (ofN l)),o)
 else if l≠[]/\rgt (ofN l)=false then .inl 70 else .inr (ascN l,ofN l)
abbrev prtV (s:ByteArray) (A:Option Addr) (n c:Nat):Value:=.agg #[.string s,.slice A n c]
def RdR (v:Int ⊕ (List UInt8 × List Int)) (w:World) (e:Ending) (w':World):Prop:=match v with
 | .inl x=>e = .returned (.tuple #[prtV ⟨#[]⟩ none 0 0,.int .i64 x])/\Below w.heap.size w w'
 | .inr p => ∃ s A c,e = .returned (.tuple #[prtV s A p.2.length c,.int .i64 0])/\dl s=p.1/\RT w' A p.2/\Below w.heap.size w w'
theorem rdR_inl{v:Int ⊕ (List UInt8 × List Int)}{x:Int}{w w':World}(h:v = .inl x)(hB:Below w.heap.size w w'):RdR v w (.returned (.tuple #[prtV ⟨#[]⟩ none 0 0,.int .i64 x])) w':=by subst h;exact⟨rfl,hB⟩
theorem rdR_inr{v:Int ⊕ (List UInt8 × List Int)}{t:List UInt8}{o:List Int}{s:ByteArray}{A:Option Addr}{n c:Nat}{w w':World}(h:v = .inr (t,o))(hn:o.length=n)(hs:dl s=t)(hr:RT w' A o)(hB:Below w.heap.size w w'):RdR v w (.returned (.tuple #[prtV s A n c,.int .i64 0])) w':=by subst h hn;exact⟨s,A,c,rfl,hs,hr,hB⟩
theorem enc_asc(r:Nat)(h:r<128):Utf8.encode (r:Int)=⟨#[UInt8.ofNat r]⟩:=by
 unfold Utf8.encode
 have hv:Utf8.valid (r:Int)=true:=by
  simp[Utf8.valid]
  omega
 simp only[hv,if_true,Int.toNat_natCast,h]
theorem fold_asc:∀ (l:List Nat) (s:ByteArray),(∀ x∈l,x<128)->dl ((ofN l).foldl (fun r n=>r++Utf8.encode n) s)=dl s++l.map UInt8.ofNat
 | [],s,_=>by simp[ofN]
 | x :: t, s, h => by
  have ih:=fold_asc t (s++Utf8.encode (x:Int)) fun y hy=>h y (List.mem_cons_of_mem _ hy)
  rw[show ofN (x::t)=(x:Int)::ofN t from rfl,List.foldl_cons,ih,enc_asc x (h x (List.mem_cons_self ..))]
  simp[dl]
theorem runes_asc{l:List Nat}(h:∀ x∈l,x<128):dl (runesBytes (ofN l))=l.map UInt8.ofNat:=by
 have:=fold_asc l ByteArray.empty h
 simpa[runesBytes,dl] using this
theorem byd_none{l:List Nat}(h:(ofN l).any byd=false):∀ x∈l,x<128:=by
 intro x hx
 have:=List.any_eq_false.1 h (x:Int) (List.mem_map.2 ⟨x,hx,rfl⟩)
 simp[byd]at this
 omega
theorem aL_len{l:List Nat}(h:aL (ofN l)=true):4<=l.length:=by
 unfold aL at h
 rw[Bool.and_eq_true]at h
 have h1:(ofN l).any byd=false:=by simpa using h.1
 have h2:=of_decide_eq_true h.2
 rw[runes_asc (byd_none h1)]at h2
 have h3:=congrArg List.length h2
 rw[List.length_take,List.length_map]at h3
 simp at h3
 omega
theorem readOne_any(l:List Nat)(A:Option Addr)(n c:Nat)(w:World)(hn:l.length=n)(hl:n<=900)(hc:n<=c)(hs:∀ x∈l,Puny.sca x=true)(hrt:RT w A (ofN l)):Calls Tryz.prog 195 #[.slice A n c] w (RdR (rdv l) w):=by
 have hr:=hrt.row
 have HT0:=Lib.hid hrt
 clear hrt
 have hn2:(ofN l).length=n:=by rw[ofN,List.length_map,hn]
 have hB0:=upA w (.cells #[.string ⟨#[]⟩,.slice none 0 0] 229)
 have hr1:=(hr.below hB0).mono hB0.size
 obtain⟨w1,hw1⟩:∃ w1,w.alloc (.cells #[.string ⟨#[]⟩,.slice none 0 0] 229)=w1:=⟨_,rfl⟩
 rw[hw1]at hB0 hr1
 have HAL:=Lib.hid (aLabel_any (ofN l) A n c w1 hn2 (by omega) hr1)
 obtain⟨q,hq⟩:∃ q,aL (ofN l)=q:=⟨_,rfl⟩
 rw[hq]at HAL
 have HQ:=Lib.hid hq
 clear hq
 go_enter Tryz.func195,Tryz.ntmps195
 go_upto_region 1 with fail
 have HB0:=Lib.hid hB0
 have HBL:Hid (∀ W,Below w1.heap.size w1 W->W.heap[w.heap.size]? = some (.cells #[.string ⟨#[]⟩,.slice none 0 0] 229 (0,0))):=Lib.hid (fun W h=>by
  have e:w1.heap[w.heap.size]? = some (.cells #[.string ⟨#[]⟩,.slice none 0 0] 229 (0,0)):=by rw[<-hw1];exact World.alloc_heap_new w _
  exact (h.block _ (Array.getElem?_eq_some_iff.1 e).1).trans e)
 have HLF:Hid (0<n->l≠[]):=Lib.hid (fun h e=>by rw[e]at hn;simp at hn;omega)
 have HLE:Hid (n=0->l=[]):=Lib.hid (fun h=>List.eq_nil_of_length_eq_zero (by omega))
 have HR1:=Lib.hid hr1
 have HR0:=Lib.hid hr
 have HCC:=Lib.hid hc
 have HN2:=Lib.hid hn2
 have hC:∀ x∈ofN l,-2147483648<=x/\x<=2147483647:=by
  intro x hx
  obtain⟨k,hk,rfl⟩:=List.mem_map.1 hx
  have:=hs k hk
  simp[Puny.sca]at this
  omega
 have HRT:=Lib.hid (fun W (h:Below w1.heap.size w1 W)=>right_any (ofN l) A n c W hn2 (by omega) hC ((hr1.below h).mono h.size))
 have HAS:=Lib.hid (fun W (h:Below w1.heap.size w1 W)=>ascii_any l A n c W hn hl hs ((hr1.below h).mono h.size))
 have HLN:=Lib.hid hn
 clear hw1 hC hs hr hr1 hn2 hn hB0
 cases q with
 | true =>
  have h4:4<=n:=by rw[<-HLN.out];exact aL_len HQ.out
  have HSF:Hid (∀ W,Below w1.heap.size w1 W->Calls Tryz.prog 243 #[.slice A n c] W (SfR (sfv (ofN l)) W)):=Lib.hid (fun W h=>by
   by_cases e:n=4
   ·subst e
    exact standsFor_4 (ofN l) A c W HN2.out HCC.out ((HR1.out.below h).mono h.size)
   ·exact standsFor_any (ofN l) A n c W HN2.out (by omega) (by omega) HCC.out ((HR1.out.below h).mono h.size))
  have HCV:=Lib.hid (fun W (h:Below w1.heap.size w1 W)=>conv_runes (c:=c) HN2.out (HR1.out.below h))
  have HVV:Hid (rdv l=match sfv (ofN l) with|.inl e => .inl e|.inr o => .inr (dl (runesBytes (ofN l)),o)):=Lib.hid (by unfold rdv;rw[HQ.out,if_pos rfl])
  obtain⟨v,hv⟩:∃ v,sfv (ofN l)=v:=⟨_,rfl⟩
  obtain⟨s,hs⟩:∃ s,runesBytes (ofN l)=s:=⟨_,rfl⟩
  rw[hv,hs]at HVV
  rw[hv]at HSF
  rw[hs]at HCV
  have HE:Hid (∀ x,sfv (ofN l) = .inl x->x=40∨x=70):=Lib.hid (fun x h=>by
   unfold sfv at h
   split at h
   ·exact .inl (Sum.inl.inj h).symm
   ·split at h
    ·exact .inl (Sum.inl.inj h).symm
    ·split at h
     ·exact .inr (Sum.inl.inj h).symm
     ·cases h)
  rw[hv]at HE
  clear hv hs HAS HRT
  go_upto_region 2 with(first|(go_at_call 242;refine HAL.out.mono ?_;rintro e w2 ⟨rfl,hB2⟩)|fail)
  have HS2:=Lib.hid (HSF.out w2 hB2)
  have HB2:=Lib.hid hB2
  clear hB2 HSF HAL
  go_wp2_with fail
  cases v with
  | inl x =>
   have HV:Hid (rdv l = .inl x):=Lib.hid HVV.out
   have hx:(x != 0)=true:=by rcases HE.out x rfl with rfl|rfl<;>rfl
   refine HS2.out.mono ?_
   rintro e w3 ⟨rfl,hB3⟩
   have hb3:=HBL.out w3 (upB HB2.out hB3)
   have e0:w3.cell? ⟨w.heap.size,0,none⟩=some (.string ⟨#[]⟩):=by simp[World.cell?,hb3]
   have e1:w3.cell? ⟨w.heap.size,1,none⟩=some (.slice none 0 0):=by simp[World.cell?,hb3]
   have f0:w3.frozen? ⟨w.heap.size,0,none⟩=false:=by simp[World.frozen?,hb3]
   have f1:w3.frozen? ⟨w.heap.size,1,none⟩=false:=by simp[World.frozen?,hb3]
   go_wp2_with fail
   refine bodyPost_ret (v:=.tuple #[prtV ⟨#[]⟩ none 0 0,.int .i64 x]) (Sx.results_two (u:=3) Tryz.results195 rfl ?_ rfl) rfl ?_
   ·go_simp
    done
   ·exact rdR_inl HV.out (((upB HB0.out (upB HB2.out hB3)).setCell (Nat.le_refl _) _).setCell (Nat.le_refl _) _)
  | inr o =>
   have HV:Hid (rdv l = .inr (dl s,o)):=Lib.hid HVV.out
   refine HS2.out.mono ?_
   rintro e w3 ⟨A3,c3,rfl,hr3,hB3⟩
   have hb3:=HBL.out w3 (upB HB2.out hB3)
   have e0:w3.cell? ⟨w.heap.size,0,none⟩=some (.string ⟨#[]⟩):=by simp[World.cell?,hb3]
   have e1:w3.cell? ⟨w.heap.size,1,none⟩=some (.slice none 0 0):=by simp[World.cell?,hb3]
   have f0:w3.frozen? ⟨w.heap.size,0,none⟩=false:=by simp[World.frozen?,hb3]
   have f1:w3.frozen? ⟨w.heap.size,1,none⟩=false:=by simp[World.frozen?,hb3]
   have hcv:=HCV.out w3 (upB HB2.out hB3)
   have HR3:=Lib.hid hr3
   clear hr3
   go_wp2_with fail
   refine bodyPost_ret (v:=.tuple #[prtV s A3 o.length c3,.int .i64 0]) (Sx.results_two (u:=3) Tryz.results195 rfl ?_ rfl) rfl ?_
   ·go_simp
    done
   ·have hBf:=((upB HB0.out (upB HB2.out hB3)).setCell (p:=⟨w.heap.size,0,none⟩) (Nat.le_refl _) (.string s)).setCell (p:=⟨w.heap.size,1,none⟩) (Nat.le_refl _) (.slice A3 o.length c3)
    refine rdR_inr HV.out rfl rfl ?_ hBf
    exact HR3.out.set2 hb3 (by decide) _ _
 | false =>
  by_cases h0:0<n
  ·have h0z:(0:Int)<(n:Int):=by omega
   have h0d:decide ((0:Int)<(n:Int))=true:=decide_eq_true h0z
   obtain⟨p,hp⟩:∃ p,rgt (ofN l)=p:=⟨_,rfl⟩
   rw[hp]at HRT
   have HP:=Lib.hid hp
   clear hp
   cases p with
   | false =>
    have HV:Hid (rdv l = .inl 70):=Lib.hid (by unfold rdv;rw[HQ.out,if_neg (by decide),if_pos ⟨HLF.out h0,HP.out⟩])
    go_upto_region 7 with(first|(go_at_call 242;refine HAL.out.mono ?_;rintro e w2 ⟨rfl,hB2⟩)|(go_at_call 244;refine (HRT.out _ hB2).mono ?_;rintro e w3 ⟨rfl,hB3⟩)|fail)
    have hb3:=HBL.out w3 (upB hB2 hB3)
    have e0:w3.cell? ⟨w.heap.size,0,none⟩=some (.string ⟨#[]⟩):=by simp[World.cell?,hb3]
    have e1:w3.cell? ⟨w.heap.size,1,none⟩=some (.slice none 0 0):=by simp[World.cell?,hb3]
    have f0:w3.frozen? ⟨w.heap.size,0,none⟩=false:=by simp[World.frozen?,hb3]
    have f1:w3.frozen? ⟨w.heap.size,1,none⟩=false:=by simp[World.frozen?,hb3]
    go_wp2_with fail
    refine bodyPost_ret (v:=.tuple #[prtV ⟨#[]⟩ none 0 0,.int .i64 70]) (Sx.results_two (u:=3) Tryz.results195 rfl ?_ rfl) rfl ?_
    ·go_simp
     done
    ·rw[HV.out]
     exact⟨rfl,((upB HB0.out (upB hB2 hB3)).setCell (Nat.le_refl _) _).setCell (Nat.le_refl _) _⟩
   | true =>
    have HV:Hid (rdv l = .inr (ascN l,ofN l)):=Lib.hid (by unfold rdv;rw[HQ.out,if_neg (by decide),if_neg (fun h=>by rw[HP.out]at h;exact Bool.noConfusion h.2)])
    go_upto_region 8 with(first|(go_at_call 242;refine HAL.out.mono ?_;rintro e w2 ⟨rfl,hB2⟩)|(go_at_call 244;refine (HRT.out _ hB2).mono ?_;rintro e w3 ⟨rfl,hB3⟩)|fail)
    have hB23:=upB hB2 hB3
    have HA2:=Lib.hid (HAS.out w3 hB23)
    have HB23:=Lib.hid hB23
    clear hB2 hB3 hB23 HAS HAL
    go_wp2_with fail
    refine HA2.out.mono ?_
    rintro e w4 ⟨s4,rfl,hs4,hB4⟩
    have hb4:=HBL.out w4 (upB HB23.out hB4)
    have e0:w4.cell? ⟨w.heap.size,0,none⟩=some (.string ⟨#[]⟩):=by simp[World.cell?,hb4]
    have e1:w4.cell? ⟨w.heap.size,1,none⟩=some (.slice none 0 0):=by simp[World.cell?,hb4]
    have f0:w4.frozen? ⟨w.heap.size,0,none⟩=false:=by simp[World.frozen?,hb4]
    have f1:w4.frozen? ⟨w.heap.size,1,none⟩=false:=by simp[World.frozen?,hb4]
    go_wp2_with fail
    refine bodyPost_ret (v:=.tuple #[prtV s4 A n c,.int .i64 0]) (Sx.results_two (u:=3) Tryz.results195 rfl ?_ rfl) rfl ?_
    ·go_simp
     done
    ·have hBf:=((upB HB0.out (upB HB23.out hB4)).setCell (p:=⟨w.heap.size,0,none⟩) (Nat.le_refl _) (.string s4)).setCell (p:=⟨w.heap.size,1,none⟩) (Nat.le_refl _) (.slice A n c)
     exact rdR_inr HV.out HN2.out hs4 (HT0.out.below hBf) hBf
  ·have h0z:¬ (0:Int)<(n:Int):=by omega
   have h0d:decide ((0:Int)<(n:Int))=false:=decide_eq_false h0z
   have HV:Hid (rdv l = .inr (ascN l,ofN l)):=Lib.hid (by unfold rdv;rw[HQ.out,if_neg (by decide),if_neg (fun h=>h.1 (HLE.out (by omega)))])
   go_upto_region 8 with(first|(go_at_call 242;refine HAL.out.mono ?_;rintro e w3 ⟨rfl,hB23⟩)|fail)
   have HA2:=Lib.hid (HAS.out w3 hB23)
   have HB23:=Lib.hid hB23
   clear hB23 HAS HAL
   go_wp2_with fail
   refine HA2.out.mono ?_
   rintro e w4 ⟨s4,rfl,hs4,hB4⟩
   have hb4:=HBL.out w4 (upB HB23.out hB4)
   have e0:w4.cell? ⟨w.heap.size,0,none⟩=some (.string ⟨#[]⟩):=by simp[World.cell?,hb4]
   have e1:w4.cell? ⟨w.heap.size,1,none⟩=some (.slice none 0 0):=by simp[World.cell?,hb4]
   have f0:w4.frozen? ⟨w.heap.size,0,none⟩=false:=by simp[World.frozen?,hb4]
   have f1:w4.frozen? ⟨w.heap.size,1,none⟩=false:=by simp[World.frozen?,hb4]
   go_wp2_with fail
   refine bodyPost_ret (v:=.tuple #[prtV s4 A n c,.int .i64 0]) (Sx.results_two (u:=3) Tryz.results195 rfl ?_ rfl) rfl ?_
   ·go_simp
    done
   ·have hBf:=((upB HB0.out (upB HB23.out hB4)).setCell (p:=⟨w.heap.size,0,none⟩) (Nat.le_refl _) (.string s4)).setCell (p:=⟨w.heap.size,1,none⟩) (Nat.le_refl _) (.slice A n c)
    exact rdR_inr HV.out HN2.out hs4 (HT0.out.below hBf) hBf
end Go.Proofs.YtkibdkfdffkkfaaGreatDoor.Hst
namespace Go.Proofs.YtkibdkfdffkkfaaGreatDoor.Rul
open Go.RowKit Ucd
def Tells (v:Value) (w:World) (e:Ending) (w':World):Prop:=e = .returned v/\Below w.heap.size w w'
def IsB (b:Bool) (w:World) (e:Ending) (w':World):Prop:=e = .returned (.bool b)/\Below w.heap.size w w'
theorem upB{w w1 w2:World}(h:Below w.heap.size w w1)(k:Below w1.heap.size w1 w2):Below w.heap.size w w2:=h.trans (k.mono h.size)
theorem upA(w:World)(o:Obj):Below w.heap.size w (w.alloc o):=(Below.refl _ w).alloc (Nat.le_refl _) o
theorem upR{w w':World}{A:Option Addr}{xs:List Value}(h:Row w w.heap.size A xs)(hb:Below w.heap.size w w'):Row w' w'.heap.size A xs:=(h.below hb).mono hb.size
theorem gets{l:List Int}{i:Nat}(h:i<l.length):l[i]? = some l[i]!:=by rw[List.getElem?_eq_getElem h,getElem!_pos l i h]
theorem mems{l:List Int}{i:Nat}(h:i<l.length):l[i]!∈l:=by rw[getElem!_pos l i h];exact List.getElem_mem h
theorem row_cell{w:World}{b o:Nat}{l:List Int}(hc:∀ k,k<(cl .i32 l).length->w.cell? ⟨b,o+k,none⟩=(cl .i32 l)[k]?)(k:Nat)(hk:k<l.length):w.cell? ⟨b,o+k,none⟩=some (.int .i32 l[k]!):=by
 rw[hc k (by simpa using hk),List.getElem?_map,gets hk]
 rfl
def bc (r:Int):Int:=g (of r) 1
theorem bc_tab:(List.range 166).all (fun i=>decide (0<=g (pr i) 1)&&decide (g (pr i) 1<=22))=true:=by decide +kernel
theorem bc_bd(r:Int):0<=bc r/\bc r<=22:=by
 unfold bc
 rcases of_cases r with ⟨i,hi,h1,h2,e⟩|⟨h,e⟩
 ·rw[e]
  have:=List.all_eq_true.1 bc_tab i (List.mem_range.2 hi)
  simp only[Bool.and_eq_true,decide_eq_true_eq]at this
  exact this
 ·rw[e];decide
def hs (s c:Int):Bool:=decide (s/2 ^ c.toNat%2≠0)
def hb (s r:Int):Bool:=hs s (bc r)
def lastC (cs:List Int):Int:=cs.foldl (fun a c=>if c=8 then a else c) 8
theorem lastC_snoc(cs:List Int)(c:Int):lastC (cs++[c])=if c=8 then lastC cs else c:=by simp[lastC,List.foldl_append]
def vio (ins lst:Int) (cs:List Int):Int :=
 if (cs.all (hs ins))=false then 10 else if hs lst (lastC cs)=false then 11 else if (cs.any (hs 8)&&cs.any (hs 64))=true then 12 else 0
def chkC:List Int->Int
 | []=>9
 | c::cs=>if hs 6 c=true then vio 9214 78 (c::cs) else if hs 1 c=true then vio 9145 9 (c::cs) else 9
def bidC (cs:List Int):Bool:=cs.any (hs 70)
def chk (l:List Int):Int:=chkC (l.map bc)
def bid (l:List Int):Bool:=bidC (l.map bc)
theorem any_hb(s:Int)(l:List Int):l.any (hb s)=(l.map bc).any (hs s):=by rw[List.any_map];rfl
theorem all_hb(s:Int)(l:List Int):l.all (hb s)=(l.map bc).all (hs s):=by rw[List.all_map];rfl
theorem any_not(p:Int->Bool)(l:List Int):l.any (fun r => !p r) = !(l.all p):=by
 induction l with
 | nil=>rfl
 | cons a t ih=>rw[List.any_cons,List.all_cons,ih,Bool.not_and]
def S (l:List Int) (c:Int):Bool:=l.contains c
theorem hs_all{c:Int}(h:0<=c/\c<=22):(hs 6 c=S [1,2] c)/\(hs 1 c=S [0] c)/\(hs 70 c=S [1,2,6] c)/\(hs 8 c=S [3] c)/\(hs 64 c=S [6] c)/\(hs 256 c=S [8] c)/\(hs 9214 c=S [1,2,6,3,4,7,5,13,9,8] c)/\(hs 78 c=S [1,2,3,6] c)/\(hs 9145 c=S [0,3,4,7,5,13,9,8] c)/\(hs 9 c=S [0,3] c):=by
 obtain⟨k,rfl⟩:∃ k:Nat,c=(k:Int):=⟨c.toNat,by omega⟩
 have hk:k<23:=by omega
 have:∀ k:Nat,k<23->(hs 6 (k:Int)=S [1,2] k)/\(hs 1 (k:Int)=S [0] k)/\(hs 70 (k:Int)=S [1,2,6] k)/\(hs 8 (k:Int)=S [3] k)/\(hs 64 (k:Int)=S [6] k)/\(hs 256 (k:Int)=S [8] k)/\(hs 9214 (k:Int)=S [1,2,6,3,4,7,5,13,9,8] k)/\(hs 78 (k:Int)=S [1,2,3,6] k)/\(hs 9145 (k:Int)=S [0,3,4,7,5,13,9,8] k)/\(hs 9 (k:Int)=S [0,3] k):=by decide +kernel
 exact this k hk
end Go.Proofs.YtkibdkfdffkkfaaGreatDoor.Rul
namespace Go.Proofs.YtkibdkfdffkkfaaGreatDoor.Hst
open Go.RowKit Utf Remap Norm Pn Puny
def lab:List Nat->List (List Nat)
 | []=>[[]]
 | x::t=>if x=46 then []::lab t else (x::(lab t).headD [])::(lab t).tail
theorem lab_ne:∀ l,lab l≠[]
 | []=>by simp[lab]
 | x::t=>by unfold lab;split<;>simp
theorem lab_none:∀ {l:List Nat},46 ∉ l->lab l=[l]
 | [],_=>rfl
 | x :: t, h => by
  have h1:x≠46:=fun e=>h (by simp[e])
  have h2:=lab_none (l:=t) fun e=>h (List.mem_cons_of_mem _ e)
  unfold lab
  rw[if_neg h1,h2]
  rfl
theorem lab_at:∀ {a:List Nat} (b:List Nat),46 ∉ a->lab (a++46::b)=a::lab b
 | [],b,_=>by rw[List.nil_append,lab,if_pos rfl]
 | x :: t, b, h => by
  have h1:x≠46:=fun e=>h (by simp[e])
  have h2:=lab_at (a:=t) b fun e=>h (List.mem_cons_of_mem _ e)
  rw[List.cons_append,lab,if_neg h1,h2]
  rfl
theorem lab_mem:∀ {l p:List Nat},p∈lab l->(∀ x∈p,x∈l/\x≠46)/\p.length<=l.length
 | [],p,h=>by simp[lab]at h;subst h;simp
 | x :: t, p, h => by
  unfold lab at h
  by_cases e:x=46
  ·rw[if_pos e]at h
   rcases List.mem_cons.1 h with rfl|h
   ·simp
   ·obtain⟨h1,h2⟩:=lab_mem h
    exact⟨fun y hy=>⟨List.mem_cons_of_mem _ (h1 y hy).1,(h1 y hy).2⟩,by simp;omega⟩
  ·rw[if_neg e]at h
   rcases List.mem_cons.1 h with rfl|h
   ·have hh:(lab t).headD []∈lab t:=by
     cases he:lab t with
     | nil=>exact absurd he (lab_ne t)
     | cons a b=>simp
    obtain⟨h1,h2⟩:=lab_mem hh
    refine⟨fun y hy => ?_,Nat.succ_le_succ h2⟩
    rcases List.mem_cons.1 hy with rfl|hy
    ·exact⟨List.mem_cons_self ..,e⟩
    ·exact⟨List.mem_cons_of_mem _ (h1 y hy).1,(h1 y hy).2⟩
   ·obtain⟨h1,h2⟩:=lab_mem (List.mem_of_mem_tail h)
    exact⟨fun y hy=>⟨List.mem_cons_of_mem _ (h1 y hy).1,(h1 y hy).2⟩,by simp;omega⟩
theorem lab_len:∀ l,(lab l).length<=l.length+1
 | []=>by simp[lab]
 | x :: t => by
  have:=lab_len t
  unfold lab
  split
  ·simp;omega
  ·simp;omega
theorem sfv_inr{l o:List Int}(h:sfv l = .inr o):∃ r,dt (dl (runesBytes (l.drop 4)))=some r/\o=ofN r/\(ofN r).any byd=true/\rgt (ofN r)=true:=by
 unfold sfv at h
 cases hd:dt (dl (runesBytes (l.drop 4))) with
 | none=>rw[hd]at h;cases h
 | some r =>
  rw[hd]at h
  dsimp only at h
  by_cases h1:(ofN r).any byd=false
  ·rw[if_pos h1]at h;cases h
  ·rw[if_neg h1]at h
   by_cases h2:rgt (ofN r)=false
   ·rw[if_pos h2]at h;cases h
   ·rw[if_neg h2]at h
    cases h
    exact⟨r,rfl,rfl,by simpa using h1,by simpa using h2⟩
theorem sfv_inl{l:List Int}{e:Int}(h:sfv l = .inl e):e=40∨e=70:=by
 unfold sfv at h
 cases hd:dt (dl (runesBytes (l.drop 4))) with
 | none=>rw[hd]at h;cases h;exact .inl rfl
 | some r =>
  rw[hd]at h
  dsimp only at h
  by_cases h1:(ofN r).any byd=false
  ·rw[if_pos h1]at h;cases h;exact .inl rfl
  ·rw[if_neg h1]at h
   by_cases h2:rgt (ofN r)=false
   ·rw[if_pos h2]at h;cases h;exact .inr rfl
   ·rw[if_neg h2]at h
    cases h
theorem rdv_inr{x:List Nat}{p:List UInt8 × List Int}(h:rdv x = .inr p):(aL (ofN x)=true/\∃ o,sfv (ofN x) = .inr o/\p=(dl (runesBytes (ofN x)),o))∨(aL (ofN x)=false/\(x=[]∨rgt (ofN x)=true)/\p=(ascN x,ofN x)):=by
 unfold rdv at h
 by_cases hA:aL (ofN x)=true
 ·rw[if_pos hA]at h
  cases hs:sfv (ofN x) with
  | inl e=>rw[hs]at h;cases h
  | inr o=>rw[hs]at h;cases h;exact .inl ⟨hA,o,rfl,rfl⟩
 ·rw[if_neg hA]at h
  by_cases h1:x≠[]/\rgt (ofN x)=false
  ·rw[if_pos h1]at h;cases h
  ·rw[if_neg h1]at h
   cases h
   refine .inr ⟨by simpa using hA, ?_,rfl⟩
   by_cases h0:x=[]
   ·exact .inl h0
   ·exact .inr (by
     cases hr:rgt (ofN x) with
     | true=>rfl
     | false=>exact absurd ⟨h0,hr⟩ h1)
theorem rdv_inl{x:List Nat}{e:Int}(h:rdv x = .inl e):e=40∨e=70:=by
 unfold rdv at h
 by_cases hA:aL (ofN x)=true
 ·rw[if_pos hA]at h
  cases hs:sfv (ofN x) with
  | inl e'=>rw[hs]at h;cases h;exact sfv_inl hs
  | inr o=>rw[hs]at h;cases h
 ·rw[if_neg hA]at h
  by_cases h1:x≠[]/\rgt (ofN x)=false
  ·rw[if_pos h1]at h;cases h;exact .inr rfl
  ·rw[if_neg h1]at h
   cases h
theorem aL_asc{x:List Nat}(h:aL (ofN x)=true):∀ y∈x,y<128:=by
 unfold aL at h
 rw[Bool.and_eq_true]at h
 exact byd_none (by simpa using h.1)
theorem ofN_drop(x:List Nat)(k:Nat):(ofN x).drop k=ofN (x.drop k):=by simp[ofN]
theorem rdv_len{x:List Nat}{p:List UInt8 × List Int}(h:rdv x = .inr p):p.2.length<=x.length:=by
 rcases rdv_inr h with ⟨hA,o,hs,rfl⟩|⟨_,_,rfl⟩
 ·obtain⟨r,hd,rfl,_⟩:=sfv_inr hs
  have h128:=aL_asc hA
  rw[ofN_drop,runes_asc fun y hy=>h128 y (List.mem_of_mem_drop hy)]at hd
  have hl:=(enc_dt hd).2.2
  rw[List.length_map,List.length_drop]at hl
  simp[ofN]
  omega
 ·simp[ofN]
abbrev Prt:=List UInt8 × List Int
def rds:List (List Nat)->Option (List Prt)
 | []=>some []
 | x :: t => match rdv x with
  | .inl _=>none
  | .inr p=>(rds t).map (p :: ·)
theorem rds_cons_inr{x:List Nat}{t:List (List Nat)}{p:Prt}(h:rdv x = .inr p):rds (x::t)=(rds t).map (p :: ·):=by
 rw[rds,h]
theorem rds_cons_inl{x:List Nat}{t:List (List Nat)}{e:Int}(h:rdv x = .inl e):rds (x::t)=none:=by
 rw[rds,h]
theorem rds_app:∀ (a b:List (List Nat)),rds (a++b)=(rds a).bind fun p=>(rds b).map (p ++ ·)
 | [], b => by
  rw[List.nil_append,show rds []=some [] from rfl,Option.bind_some]
  simp
 | x :: t, b => by
  rw[List.cons_append]
  cases h:rdv x with
  | inl e=>rw[rds_cons_inl h,rds_cons_inl h];rfl
  | inr p =>
   rw[rds_cons_inr h,rds_cons_inr h,rds_app t b]
   cases rds t with
   | none=>rfl
   | some q=>cases rds b<;>rfl
theorem rds_snoc{a:List (List Nat)}{ps:List Prt}{x:List Nat}{p:Prt}(h:rds a=some ps)(hx:rdv x = .inr p):rds (a++[x])=some (ps++[p]):=by
 rw[rds_app,h,rds_cons_inr hx]
 rfl
theorem rds_stop{a:List (List Nat)}{x:List Nat}{e:Int}(b:List (List Nat))(hx:rdv x = .inl e):rds (a++[x]++b)=none:=by
 rw[List.append_assoc,rds_app,List.singleton_append,rds_cons_inl hx]
 cases rds a<;>rfl
theorem rds_len:∀ {a:List (List Nat)} {ps:List Prt},rds a=some ps->ps.length=a.length
 | [],ps,h=>by cases h;rfl
 | x :: t, ps, h => by
  cases hx:rdv x with
  | inl e=>rw[rds_cons_inl hx]at h;cases h
  | inr p =>
   rw[rds_cons_inr hx,Option.map_eq_some_iff]at h
   obtain⟨q,hq,rfl⟩:=h
   simp[rds_len hq]
def unr (ps:List Prt):Bool:=ps.any (fun p=>Rul.bid p.2)&&ps.any (fun p => !p.2.isEmpty&&Rul.chk p.2 != 0)
def jnd (ps:List Prt):List UInt8:=Lib.join (ps.map (·.1)) [46]
def toN (l:List Int):List Nat:=l.map Int.toNat
def tA (l:List Int):Option (List UInt8) :=
 if good l=false then none else match rds (lab (toN (nfc (mapL l)))) with
 | none=>none
 | some ps=>if mapL l=[]∨unr ps=true then none else some (jnd ps)
theorem toN_ofN{l:List Int}(h:∀ x∈l,0<=x):ofN (toN l)=l:=by
 unfold ofN toN
 rw[List.map_map]
 refine (List.map_congr_left fun x hx => ?_).trans (List.map_id l)
 have:=h x hx
 show ((x.toNat:Nat):Int)=x
 omega
theorem fullN_mem:∀ k r,∀ x∈fullN k r,x=r∨(0<=x/\x<=55203)
 | 0,r,x,h=>by simp[fullN]at h;exact .inl h
 | k + 1, r, x, h => by
  unfold fullN at h
  split at h
  ·rcases fullN_mem k _ x h with rfl|h
   ·exact .inr (by omega)
   ·exact .inr h
  ·split at h
   ·rcases fullN_mem k _ x h with rfl|h
    ·exact .inr (by omega)
    ·exact .inr h
   ·split at h
    ·rename_i p hp
     have hw:=spl_wf hp
     rcases List.mem_append.1 h with h|h
     ·rcases fullN_mem k _ x h with rfl|h
      ·exact .inr (by omega)
      ·exact .inr h
     ·simp at h
      exact .inr (by omega)
    ·simp at h;exact .inl h
theorem dec_mem{l:List Int}:∀ x∈dec l,x.1∈l∨(0<=x.1/\x.1<=55203):=by
 intro x hx
 obtain⟨r,hr,hx⟩:=List.mem_flatMap.1 hx
 obtain⟨y,hy,rfl⟩:=List.mem_map.1 hx
 rcases fullN_mem 4 r y hy with h|h
 ·exact .inl (show y∈l by rw[h];exact hr)
 ·exact .inr h
theorem fold_mem(P:Int->Prop)(hj:∀ r,0<=r->r<=55203->P r):∀ (L:List C) (s:St),(∀ x∈s.out,P x)->(∀ c∈L,P c.1)->∀ x∈(L.foldl St.step s).out,P x
 | [],s,hs,_=>hs
 | c :: t, s, hs, hL => by
  rw[List.foldl_cons]
  refine fold_mem P hj t _ ?_ fun y hy=>hL y (List.mem_cons_of_mem _ hy)
  have hp:∀ x∈(s.push c).out,P x:=by
   intro x hx
   rcases List.mem_append.1 hx with hx|hx
   ·exact hs x hx
   ·simp at hx;rw[hx];exact hL c (List.mem_cons_self ..)
  by_cases hm:s.may c
  ·cases h:jn (s.out.getD s.st.toNat 0) c.1 with
   | none=>rw[step_none h];exact hp
   | some r =>
    rw[step_some hm h]
    intro x hx
    rcases List.mem_or_eq_of_mem_set hx with hx|rfl
    ·exact hs x hx
    ·have:=jn_wf h
     exact hj _ this.1 this.2
  ·rw[step_no hm];exact hp
theorem nfc_mem{l:List Int}:∀ x∈nfc l,x∈l∨(0<=x/\x<=55203):=by
 unfold nfc comp
 refine fold_mem (fun x=>x∈l∨(0<=x/\x<=55203)) (fun r h1 h2 => .inr ⟨h1,h2⟩) _ _ (by simp) fun c hc => ?_
 exact dec_mem c (by simpa using (mem_arr (dec l) [] c).1 hc)
theorem tab_sca:(List.range 166).all (fun i=>decide (0<=Ucd.fr i/\Ucd.to i<=1114111/\(Ucd.to i<55296∨57343<Ucd.fr i)))=true:=by decide +kernel
theorem sh_sca:shL.all (fun s=>decide (0<=s.2.2/\s.2.2+(s.2.1-s.1)<55296))=true:=by decide +kernel
theorem known_sca{r:Int}(h:Ucd.g (Ucd.of r) 0≠0):Utf.sca r=true:=by
 rcases Ucd.of_cases r with ⟨i,hi,h1,h2,_⟩|⟨_,e⟩
 ·have:=of_decide_eq_true (List.all_eq_true.1 tab_sca i (List.mem_range.2 hi))
  exact decide_eq_true (by omega)
 ·rw[e]at h
  exact absurd (by decide) h
theorem m1_sca{r:Int}(h:(one r).2≠3):∀ x∈m1 r,Utf.sca x=true:=by
 intro x hx
 unfold m1 at hx
 rw[if_neg h]at hx
 unfold one at h hx
 cases hm:mp r with
 | some l =>
  rw[hm]at hx
  dsimp only at hx
  unfold mp at hm
  by_cases h8:r=8230
  ·rw[if_pos h8]at hm
   injection hm with hm
   rw[<-hm]at hx
   simp at hx
   subst hx
   decide
  ·rw[if_neg h8,Option.map_eq_some_iff]at hm
   obtain⟨s,hs,hl⟩:=hm
   have h1:=of_decide_eq_true (List.all_eq_true.1 sh_sca s (List.mem_of_find?_eq_some hs))
   have h2:=List.find?_some hs
   unfold inS at h2
   have h2:=of_decide_eq_true h2
   rw[<-hl]at hx
   simp at hx
   subst hx
   exact decide_eq_true (by omega)
 | none =>
  rw[hm]at h hx
  dsimp only at h hx
  revert h hx
  cases igL.any (inP r)
  ·cases hv:vl r
   ·intro h;exact absurd rfl h
   ·intro _ hx
    simp at hx
    subst hx
    unfold vl at hv
    rw[Bool.and_eq_true]at hv
    exact known_sca (by simpa using hv.1)
  ·intro _ hx
   simp at hx
theorem mapL_sca{l:List Int}(h:good l=true):∀ x∈mapL l,Utf.sca x=true:=by
 intro x hx
 obtain⟨r,hr,hx⟩:=List.mem_flatMap.1 hx
 exact m1_sca (of_decide_eq_true (List.all_eq_true.1 h r hr)) x hx
theorem nfc_sca{l:List Int}(h:∀ x∈l,Utf.sca x=true):∀ x∈nfc l,Utf.sca x=true:=by
 intro x hx
 rcases nfc_mem x hx with h1|h1
 ·exact h x h1
 ·exact decide_eq_true (by omega)
theorem sca_pos{x:Int}(h:Utf.sca x=true):0<=x/\x<=1114111:=by
 have:=of_decide_eq_true h
 omega
theorem toN_sca{l:List Int}(h:∀ x∈l,Utf.sca x=true):∀ x∈toN l,Puny.sca x=true:=by
 intro x hx
 obtain⟨y,hy,rfl⟩:=List.mem_map.1 hx
 have:=of_decide_eq_true (h y hy)
 exact decide_eq_true (by omega)
end Go.Proofs.YtkibdkfdffkkfaaGreatDoor.Hst
namespace Go.Proofs.YtkibdkfdffkkfaaGreatDoor.Hst
open Go.RowKit Go.Shelf Utf Remap Norm Pn Puny
attribute [local go_sem] Oper.semAt_some
def DotIs (l:List Nat) (r:Int):Prop:=(r = -1/\46 ∉ l)∨∃ a b,l=a++46::b/\46 ∉ a/\r=(a.length:Int)
def DotR (l:List Nat) (w:World) (e:Ending) (w':World):Prop:=∃ r,e = .returned (.int .i64 r)/\DotIs l r/\w=w'
theorem dot_at{l:List Nat}{k:Nat}(hk:k<l.length)(h:l[k]! = 46)(hno:∀ j,j<k->l[j]!≠46):DotIs l (k:Int):=by
 refine .inr ⟨l.take k,l.drop (k+1), ?_, ?_,by rw[List.length_take];omega⟩
 ·rw[<-h,getElem!_pos l k hk,<-List.drop_eq_getElem_cons hk,List.take_append_drop]
 ·intro hm
  obtain⟨j,hj,e⟩:=List.getElem_of_mem hm
  rw[List.length_take]at hj
  refine hno j (by omega) ?_
  rw[getElem!_pos l j (by omega)]
  rw[List.getElem_take]at e
  exact e
theorem dot_no{l:List Nat}{n:Nat}(hn:l.length=n)(hno:∀ j,j<n->l[j]!≠46):DotIs l (-1):=by
 refine .inl ⟨rfl,fun hm => ?_⟩
 obtain⟨j,hj,e⟩:=List.getElem_of_mem hm
 refine hno j (by omega) ?_
 rw[getElem!_pos l j hj]
 exact e
theorem ofN_get{l:List Nat}{k:Nat}(h:k<l.length):(ofN l)[k]! = ((l[k]!:Nat):Int):=by
 rw[getElem!_pos l k h,getElem!_pos (ofN l) k (by simpa[ofN] using h)]
 simp[ofN]
theorem Index_dot(l:List Nat)(A:Option Addr)(n c:Nat)(w:World)(hn:l.length=n)(hn1:n<=1000000)(hr:Row w w.heap.size A (cl .i32 (ofN l))):Calls Tryz.prog 168 #[.slice A n c,.int .i32 46] w (DotR l w):=by
 have HN:=Lib.hid hn
 clear hn
 go_enter Tryz.func168,Tryz.ntmps168
 go_wp2_with fail
 go_loopg [8] n (fun m s8 wr => ∃ k:Nat,s8 = .int .i64 (k:Int)/\m=n-k/\k<=n/\Hid (∀ j,j<k->l[j]!≠46)/\wr=w)
 case atStart=>exact⟨0,rfl,rfl,Nat.zero_le _,Lib.hid (fun j hj=>by omega),rfl⟩
 case round =>
  obtain⟨k,rfl,rfl,hk,HNo,rfl⟩:=hrel
  by_cases hlt:k<n
  ·have hltz:(k:Int)<(n:Int):=by omega
   obtain⟨b,o,rfl,hb,hcc⟩:=hr.at_ (by have:=HN.out;simp[ofN];omega)
   have c0:=cell_at hcc (k:=k) (by rw[ofN,List.length_map,HN.out];exact hlt)
   rw[ofN_get (by rw[HN.out];exact hlt)]at c0
   obtain⟨y,hy⟩:∃ y,l[k]! = y:=⟨_,rfl⟩
   rw[hy]at c0
   have HY:=Lib.hid hy
   clear hcc hy
   by_cases h:y=46
   ·have hz:(y:Int)=46:=by omega
    have HD:Hid (DotIs l (k:Int)):=Lib.hid (dot_at (by rw[HN.out];exact hlt) (HY.out.trans h) HNo.out)
    go_wp2_with fail
    go_ret
    exact⟨k,rfl,HD.out,rfl⟩
   ·have h':¬ (y:Int)=46:=by omega
    go_wp2_with fail
    go_roundg (n-(k+1))
    case measure=>omega
    case rel =>
     refine⟨k+1,by go_num,rfl,by omega,Lib.hid (fun j hj => ?_),rfl⟩
     by_cases hjk:j=k
     ·subst hjk;rw[HY.out];exact h
     ·exact HNo.out j (by omega)
  ·obtain rfl:k=n:=by omega
   have hltz:¬ ((k:Nat):Int)<(k:Int):=by omega
   have HD:Hid (DotIs l (-1)):=Lib.hid (dot_no HN.out HNo.out)
   go_wp2_with fail
   go_ret
   exact⟨-1,rfl,HD.out,rfl⟩
structure Sg0 where
 l:List Nat
 A:Option Addr
 n:Nat
 c:Nat
def Sgp (w0:World) (L:List Nat) (x:Sg0):Prop:=x.l.length=x.n/\x.n<=x.c/\RT w0 x.A (ofN x.l)/\(∀ y∈x.l,y∈L)/\x.n<=L.length
abbrev Sg (w0:World) (L:List Nat):={x:Sg0 // Sgp w0 L x/\x.l∈lab L}
def encG {w0:World} {L:List Nat} (x:Sg w0 L):Array Value:=#[.slice x.1.A x.1.n x.1.c]
abbrev dsg {w0:World} {L:List Nat} (x:Sg w0 L):List Nat:=x.1.l
theorem RT.take{w:World}{A:Option Addr}{l:List Int}(h:RT w A l)(k:Nat):RT w A (l.take k):=by
 rcases h with h|⟨b,o,cur,fz,hA,hb,hc⟩
 ·subst h;exact .inl (by simp)
 ·refine .inr ⟨b,o,cur,fz,hA,hb,fun i hi => ?_⟩
  rw[List.length_take]at hi
  rw[hc i (by omega),List.getElem?_map,List.getElem?_map,List.getElem?_take_of_lt (by omega)]
theorem RT.drop{w:World}{A:Option Addr}{l:List Int}(h:RT w A l){n cap k:Nat}(hn:l.length=n)(hc:n<=cap):RT w (if cap=k+1 then A else A.map (fun x => { block:=x.block,off:=x.off+(k+1) })) (l.drop (k+1)):=by
 by_cases e:l.drop (k+1)=[]
 ·exact .inl e
 ·have hlt:k+1<l.length:=by
   rcases Nat.lt_or_ge (k+1) l.length with h1|h1
   ·exact h1
   ·exact absurd (List.drop_of_length_le h1) e
  rcases h with h|⟨b,o,cur,fz,rfl,hb,hcc⟩
  ·subst h;simp at hlt
  ·rw[if_neg (by omega)]
   refine .inr ⟨b,o+(k+1),cur,fz,rfl,hb,fun i hi => ?_⟩
   rw[List.length_drop]at hi
   rw[Nat.add_assoc,hcc (k+1+i) (by omega),List.getElem?_map,List.getElem?_map,List.getElem?_drop]
theorem labels_any(A:Option Addr)(k c:Nat)(w:World)(n:Nat) :
  CallsIn Fence.wide n Tryz.prog 194 #[.slice A k c] w fun e w'=>e = .returned (.func (.func 241) #[] #[.pointer (some ⟨w.heap.size,0,none⟩)])/\w'=w.alloc (.cells #[.slice A k c] 22):=by
 refine callsIn_of_wp Tryz.func194 rfl trivial ?_ rfl
 simp only[Tryz.ntmps194,List.size_toArray,List.length_cons,List.length_nil,Nat.reduceAdd,Nat.reduceSub,Array.replicate_succ,Array.replicate_zero,List.push_toArray,List.append_toArray,List.nil_append,List.cons_append]
 gi_wp2
 go_ret
 exact⟨rfl,rfl⟩
def lenOf:Value->Nat
 | .slice _ n _=>n
 | _=>0
def PRelL (w0:World) (L:List Nat) (J:List (Sg w0 L)->World->Prop) (v:Value) (wr:World):Prop :=
 ∃ (pre:List (Sg w0 L)) (x:Sg0),Sgp w0 L x/\v = .slice x.A x.n x.c/\lab L=pre.map dsg++lab x.l/\J pre wr/\Below w0.heap.size w0 wr
theorem pre_ltL{w0:World}{L:List Nat}{pre:List (Sg w0 L)}{r:List Nat}(h:lab L=pre.map dsg++lab r):pre.length<(lab L).length:=by
 rw[h,List.length_append,List.length_map]
 have:=List.length_pos_iff.2 (lab_ne r)
 omega
theorem labels1_in(n:Nat)(hn:1<=n)(Lb Bn:Nat)(w0:World)(L:List Nat)(x0:Sg0)(hp0:Sgp w0 L x0)(hx0:x0.l=L)(hL:L.length<=100000)(J Jx:List (Sg w0 L)->World->Prop)(W:World)(hW:Below w0.heap.size w0 W)
  (hY:∀ pre x W,J pre W->pre.length<(lab L).length->YieldAt Fence.wide (n-1) Tryz.prog Lb (encG x) W fun e W' =>
   (e = .returned (.bool true)/\J (pre++[x]) W'/\Fou.KpB w0.heap.size Bn W W')∨(e = .returned (.bool false)/\Jx (pre++[x]) W'))
  (hBn:W.heap[Bn]? = some (.cells #[.slice x0.A x0.n x0.c] 22 (0,0))) (h0:J [] W) :
  CallsIn Fence.wide n Tryz.prog 241 #[.func (.yield Lb) #[] #[],.pointer (some ⟨Bn,0,none⟩)] W fun e W'=>(∃ v,e = .returned v) /\
   ((∃ ys:List (Sg w0 L),ys.map dsg=lab L/\J ys W')∨(∃ pre:List (Sg w0 L),pre.map dsg <+: lab L/\pre≠[]/\Jx pre W')):=by
 have hcell0:W.cell? ⟨Bn,0,none⟩=some (.slice x0.A x0.n x0.c):=by simp[World.cell?,hBn]
 have HY:=Lib.hid hY
 have HX0:=Lib.hid hx0
 clear hY hBn hx0
 refine callsIn_of_wp Tryz.func241 rfl trivial ?_ rfl
 simp only[Tryz.ntmps241,List.size_toArray,List.length_cons,List.length_nil,Nat.reduceAdd,Nat.reduceSub,Array.replicate_succ,Array.replicate_zero,List.push_toArray,List.append_toArray,List.nil_append,List.cons_append]
 gi_wp2_with fail
 gi_loopw [3] (fun v wr=>PRelL w0 L J v wr) (fun v _=>lenOf v)
 case atStart=>exact⟨[],x0,hp0,rfl,by rw[HX0.out];rfl,h0,hW⟩
 case round =>
  obtain⟨pre,⟨l,A,m,c⟩,hp,rfl,hlab,hJs,hB⟩:=hrel
  obtain⟨hlen,hmc,hrt,hmem,hml⟩:=hp
  have HP:Hid (Sgp w0 L ⟨l,A,m,c⟩):=Lib.hid ⟨hlen,hmc,hrt,hmem,hml⟩
  dsimp only at hlen hmc hrt hmem hml hlab ⊢
  have HCO:=Lib.hid hlab
  have hrow:=(hrt.below hB).row
  have hm1:m<=1000000:=by omega
  clear hlab h0 hcell0
  gi_wp2_with fail
  refine⟨trivial,(callsIn_wide.2 (Index_dot l A m c _ hlen hm1 hrow)).mono ?_⟩
  rintro e w1 ⟨r,rfl,hr,rfl⟩
  rcases hr with ⟨rfl,hno⟩|⟨a,b,hl,ha,rfl⟩
  ·have HN:=Lib.hid hno
   clear hno
   have hy1:l∈lab L:=by rw[HCO.out,lab_none HN.out];simp
   obtain⟨fn,tmps,assign,body,hy,hR⟩:=HY.out pre ⟨⟨l,A,m,c⟩,HP.out,hy1⟩ _ hJs (pre_ltL HCO.out)
   simp only[encG]at hy
   have HCS:Hid ((pre++[(⟨⟨l,A,m,c⟩,HP.out,hy1⟩:Sg w0 L)]).map dsg=lab L):=Lib.hid (by
    rw[List.map_append,List.map_singleton]
    exact (HCO.out.trans (by rw[lab_none HN.out])).symm)
   clear hJs
   gi_wp2
   refine hR.mono ?_
   rintro e W3 (⟨rfl,hJ3,hk3⟩|⟨rfl,hJx3⟩)
   ·gi_wp2
    refine bodyPost_ret (results_none rfl _ _ _) rfl ?_
    exact⟨⟨_,rfl⟩,.inl ⟨_,HCS.out,hJ3⟩⟩
   ·gi_wp2
    refine bodyPost_ret (results_none rfl _ _ _) rfl ?_
    exact⟨⟨_,rfl⟩,.inr ⟨_,⟨[],by rw[List.append_nil];exact HCS.out⟩,by simp,hJx3⟩⟩
  ·have hal:a.length<m:=by rw[<-hlen,hl];simp
   have hq1:Sgp w0 L ⟨a,A,a.length,c⟩:=by
    refine⟨rfl,by show a.length<=c;omega, ?_,fun y hy=>hmem y (by rw[hl];exact List.mem_append_left _ hy),by show a.length<=L.length;omega⟩
    have:=hrt.take a.length
    have e:(ofN l).take a.length=ofN a:=by rw[hl];simp[ofN]
    rwa [e]at this
   have hq2:Sgp w0 L ⟨b,if c=a.length+1 then A else A.map (fun x => { block:=x.block,off:=x.off+(a.length+1) }),m-(a.length+1),c-(a.length+1)⟩:=by
    refine⟨?_,by show m-(a.length+1)<=c-(a.length+1);omega, ?_,fun y hy=>hmem y (by rw[hl];exact List.mem_append_right _ (List.mem_cons_of_mem _ hy)),by show m-(a.length+1)<=L.length;omega⟩
    ·have:=congrArg List.length hl
     simp at this
     show b.length=m-(a.length+1)
     omega
    ·have:=hrt.drop (k:=a.length) (cap:=c) (by rw[ofN,List.length_map,hlen]) hmc
     have e:(ofN l).drop (a.length+1)=ofN b:=by
      rw[ofN_drop,hl,show a++46::b=(a++[46])++b by simp,List.drop_left' (by simp)]
     rwa [e]at this
   have hy1:a∈lab L:=by rw[HCO.out,hl,lab_at b ha];simp
   have HCS:Hid (lab L=(pre++[(⟨⟨a,A,a.length,c⟩,hq1,hy1⟩:Sg w0 L)]).map dsg++lab b):=Lib.hid (HCO.out.trans (by
    rw[hl,lab_at b ha,List.map_append,List.map_singleton,List.append_assoc]
    rfl))
   have HQ2:=Lib.hid hq2
   obtain⟨k,hk⟩:∃ k,a.length=k:=⟨_,rfl⟩
   have h3:(a.length:Int)+1<=m:=by omega
   have h4:¬ (a.length:Int)<0:=by omega
   have h5:(a.length:Int)<=m:=by omega
   obtain⟨fn,tmps,assign,body,hy,hR⟩:=HY.out pre ⟨⟨a,A,a.length,c⟩,hq1,hy1⟩ _ hJs (pre_ltL HCO.out)
   simp only[encG]at hy
   clear hJs hl ha hq2 hk
   gi_wp2
   refine hR.mono ?_
   rintro e W3 (⟨rfl,hJ3,hk3⟩|⟨rfl,hJx3⟩)
   ·have hBf:=hB.trans hk3.1
    have hms:m-(a.length+1)<m:=by omega
    by_cases hc1:c=a.length+1
    ·rw[if_pos hc1]at HQ2
     subst hc1
     gi_wp2
     have hm0:m-(a.length+1)=0:=by omega
     rw[Nat.sub_self,hm0]at HQ2
     rw[hm0]at hms
     go_roundw
     case rel=>exact⟨pre++[(⟨⟨a,A,a.length,a.length+1⟩,hq1,hy1⟩:Sg w0 L)],⟨b,A,0,0⟩,HQ2.out,rfl,HCS.out,hJ3,hBf⟩
     case measure=>exact hms
    ·rw[if_neg hc1]at HQ2
     gi_wp2
     go_roundw
     case rel=>exact⟨pre++[(⟨⟨a,A,a.length,c⟩,hq1,hy1⟩:Sg w0 L)],⟨b,_,m-(a.length+1),c-(a.length+1)⟩,HQ2.out,rfl,HCS.out,hJ3,hBf⟩
     case measure=>exact hms
   ·gi_wp2
    refine bodyPost_ret (results_none rfl _ _ _) rfl ?_
    exact⟨⟨_,rfl⟩,.inr ⟨_,⟨_,HCS.out.symm⟩,by simp,hJx3⟩⟩
theorem labels_stops(n:Nat)(hn:1<=n)(Bn:Nat)(w0:World)(L:List Nat)(x0:Sg0)(hp0:Sgp w0 L x0)(hx0:x0.l=L)(hL:L.length<=100000)(w:World)(hBw:Below w0.heap.size w0 w)(hBn:w.heap[Bn]? = some (.cells #[.slice x0.A x0.n x0.c] 22 (0,0))) :
  SeqStopsK Fence.wide n Tryz.prog 241 #[.pointer (some ⟨Bn,0,none⟩)] (encG (w0:=w0) (L:=L)) (Fou.KpB w0.heap.size Bn) (fun ys=>ys.map dsg=lab L) (fun pre=>pre.map dsg <+: lab L/\pre≠[]) (lab L).length w:=fun Lb J Jx W hW _ _ hY h0 =>
 (labels1_in n hn Lb Bn w0 L x0 hp0 hx0 hL J Jx W (hBw.trans (hW.mono hBw.size)) hY ((hW.block Bn (Array.getElem?_eq_some_iff.1 hBn).1).trans hBn) h0).mono fun _ _ h=>⟨h.1,h.2.imp id fun ⟨pre,h1,h2,h3⟩=>⟨pre,⟨h1,h2⟩,h3⟩⟩
attribute [local go_sem] Oper.semAt_some
structure Pr where
 s:ByteArray
 A:Option Addr
 n:Nat
 c:Nat
 o:List Int
def Pr.val (q:Pr):Prt:=(dl q.s,q.o)
def pcl (qs:List Pr):List Value:=qs.flatMap fun q=>[.string q.s,.slice q.A q.n q.c]
theorem pcl_snoc(qs:List Pr)(q:Pr):pcl (qs++[q])=pcl qs++[.string q.s,.slice q.A q.n q.c]:=by simp[pcl]
def PrI (w:World) (q:Pr):Prop:=q.o.length=q.n/\q.n<=4000/\RT w q.A q.o
theorem PrI.keep{w w':World}{q:Pr}(h:PrI w q)(hk:∀ (b:Nat) (cur:Array Value) (fz:Nat × Nat),w.heap[b]? = some (Obj.cells cur 21 fz)->w'.heap[b]? = some (Obj.cells cur 21 fz)):PrI w' q:=⟨h.1,h.2.1,h.2.2.keep hk⟩
theorem PrI.below{w w':World}{q:Pr}(h:PrI w q)(hB:Below w.heap.size w w'):PrI w' q:=⟨h.1,h.2.1,h.2.2.below hB⟩
theorem PrI.grown{w w':World}{q:Pr}{row:Option Nat}(h:PrI w q)(hg:w.grownBy w' row)(hr:∀ r,row=some r->∀ (cur:Array Value) (fz:Nat × Nat),w.heap[r]?≠some (Obj.cells cur 21 fz)):PrI w' q :=
 h.keep fun b cur fz hb=>(hg.block b (Array.getElem?_eq_some_iff.1 hb).1 (fun e=>hr b e.symm cur fz hb)).trans hb
theorem info_part:(Tryz.prog.info? 229).map (fun i=>(i.zero,i.size,i.bytes))=some (some (.agg #[.string ⟨#[]⟩,.slice none 0 0]),2,40):=by kernel_rfl
theorem info_sp{i:TypeId}{z:Value}{a b:Nat}(h:(Tryz.prog.info? i).map (fun i=>(i.zero,i.size,i.bytes))=some (some z,a,b)):∃ x,Tryz.prog.info? i=some x/\x.zero=some z/\x.size=a/\x.bytes=b:=by
 cases hx:Tryz.prog.info? i with
 | none=>rw[hx]at h;cases h
 | some x =>
  rw[hx]at h
  simp at h
  exact⟨x,rfl,h.1,h.2.1,h.2.2⟩
theorem box_go{W W':World}{B:Nat}{t:TypeId}{v:Value}(h:Boxed W B t v)(hb:Below W.heap.size W W'):Boxed W' B t v:=(hb.block B h.lt).trans h
theorem PrI.set{W:World}{B:Nat}{t:TypeId}{v:Value}{q:Pr}(h:PrI W q)(hb:Boxed W B t v)(ht:t≠21)(u:Value):PrI (W.setCell ⟨B,0,none⟩ u) q:=h.keep fun b cur fz e=>by
 have hne:b≠B:=fun x=>by
  subst x
  have:W.heap[b]? = _:=hb
  rw[e]at this
  injection this with this
  injection this with _ h2 _
  exact ht h2.symm
 rw[Below.heap_setCell _ _ _ _ hne]
 exact e
theorem PrI.put{W:World}{D:Nat}{o:Obj}{q:Pr}(h:PrI W q)(o':Obj)(hD:W.heap[D]? = some o)(ho:o.isCells=false):PrI (W.putObj D o') q:=h.grown (grownBy_putObj' W D o') fun r e cur fz hc=>by
 injection e with e
 subst e
 rw[hD]at hc
 cases hc
 cases ho
theorem keeps_below{W W':World}(h:Below W.heap.size W W'):KeepsOthers W W':=⟨h.size,fun k _ hk _=>(h.block k (Array.getElem?_eq_some_iff.1 hk).1).trans hk⟩
theorem box_past{W w1:World}{n₀ B B':Nat}{t' e:TypeId}{size:Nat}{v v' u:Value}{k:Nat}{xs:List Value}{tmp:Obj}
  (hb:Boxed W B' t' u) (hte:t'≠e) (hrow:W.ownsRow n₀ e size v k xs) (hgrow:(W.alloc tmp).grownBy w1 v.ownBlock) (hne:B'≠B):Boxed (w1.setCell ⟨B,0,none⟩ v') B' t' u :=
 ((hb.alloc tmp).kept hgrow (hb.not_row hte hrow)).other hne v'
theorem rd_past{W1 w2:World}{n₀ B k:Nat}{v v':Value}{xs:List Value}{tmp:Obj}{q:Pr}(hq:PrI W1 q)(hrow:W1.ownsRow n₀ 229 2 v k xs)(hgrow:(W1.alloc tmp).grownBy w2 v.ownBlock)(hv1:Boxed w2 B 190 v):PrI (w2.setCell ⟨B,0,none⟩ v') q:=by
 have h2:=(hq.below (upA W1 tmp)).grown hgrow fun r e cur fz hc=>by
  rcases (hrow.alloc tmp).2 with ⟨rfl,_⟩|⟨g,cap,cur',rfl,_,hg,_⟩
  ·cases e
  ·injection e with e
   subst e
   rw[hg]at hc
   injection hc with hc
   injection hc with _ h2 _
   revert h2
   decide
 refine h2.keep fun b cur fz hb => ?_
 have hne:b≠B:=fun e=>by
  subst e
  have:w2.heap[b]? = _:=hv1
  rw[hb]at this
  injection this with this
  injection this with _ h2 _
  revert h2
  decide
 rw[Below.heap_setCell _ _ _ _ hne]
 exact hb
def RdI (w:World) (L:List Nat) (sv:Value) (pre:List (Sg w L)) (W:World):Prop :=
 ((∃ v qs,(Boxed W (w.heap.size+1+1) 190 v/\W.ownsRow w.heap.size 229 2 v pre.length (pcl qs))/\rds (pre.map dsg)=some (qs.map Pr.val)/\∀ q∈qs,PrI W q) /\
  ((Boxed W w.heap.size 190 (.slice none 0 0)/\Boxed W (w.heap.size+1) 29 (.int .i64 0))/\Boxed W (w.heap.size+1+1+1) 22 sv))/\Below w.heap.size w W
def RdX (w:World) (L:List Nat) (c:Code) (pre:List (Sg w L)) (W:World):Prop :=
 (∃ x:Int,(c = .ret/\x≠0/\∃ a y e,pre.map dsg=a++[y]/\rdv y = .inl e)/\Boxed W w.heap.size 190 (.slice none 0 0)/\Boxed W (w.heap.size+1) 29 (.int .i64 x))/\Below w.heap.size w W
theorem rdI_own(w:World)(L:List Nat)(sv:Value):OwnFrom (w.heap.size+4) (RdI w L sv):=by
 refine OwnFrom.and (OwnFrom.and (Own.from ?_ _) (OwnFrom.and (OwnFrom.and (Own.from (boxed_own _ _ _) _) (Own.from (boxed_own _ _ _) _)) (Own.from (boxed_own _ _ _) _))) (ownFrom_below (Nat.le_refl _) (by omega))
 rintro s X Y row ⟨v,qs,⟨hv,hr⟩,hq,hp⟩ hg hrow
 obtain⟨v',h1,h2,_⟩:=holdsRow_own w.heap.size (w.heap.size+1+1) 190 229 2 (fun _:Unit=>s.length) (fun _=>pcl qs) (fun _ _=>True) () X Y row ⟨v,hv,hr,trivial⟩ hg hrow
 refine⟨v',qs,⟨h1,h2⟩,hq,fun q h=>(hp q h).grown hg fun r e cur fz hc => ?_⟩
 obtain⟨o,ho,hn⟩:=hrow r e
 rw[hc]at ho
 cases ho
 cases hn
theorem rdX_own(w:World)(L:List Nat)(c:Code):OwnFrom (w.heap.size+4) (RdX w L c):=by
 refine OwnFrom.and ?_ (ownFrom_below (Nat.le_refl _) (by omega))
 rintro s X Y row ⟨x,hc,h1,h2⟩ hg hrow
 exact⟨x,hc,(Own.from (boxed_own _ _ (fun _:Unit=>_)) _) () X Y row h1 hg hrow,(Own.from (boxed_own _ _ (fun _:Unit=>_)) _) () X Y row h2 hg hrow⟩
theorem results_rd{w:World}{B2 B3:Nat}{a b:Value}{tmps:Array Value}(h2:w.heap[B2]? = some (.cells #[a] 190 (0,0)))(h3:w.heap[B3]? = some (.cells #[b] 29 (0,0)))(t2:tmps[2]? = some (.pointer (some ⟨B2,0,none⟩)):=by rfl)(t3:tmps[3]? = some (.pointer (some ⟨B3,0,none⟩)):=by rfl) :
  (results Tryz.f147 tmps).run Tryz.prog w = .ok (.tuple #[a,b]) w:=by
 have c2:w.cell? ⟨B2,0,none⟩=some a:=by simp[World.cell?,h2]
 have c3:w.cell? ⟨B3,0,none⟩=some b:=by simp[World.cell?,h3]
 simp[results,Tryz.results147,go_sem,c2,c3,t2,t3]
def RdsR (L:List Nat) (w:World) (e:Ending) (w':World):Prop :=
 (rds (lab L)=none/\∃ x:Int,x≠0/\e = .returned (.tuple #[.slice none 0 0,.int .i64 x])/\Below w.heap.size w w') ∨
 ∃ qs A c,rds (lab L)=some (qs.map Pr.val)/\e = .returned (.tuple #[.slice A qs.length c,.int .i64 0])/\w'.ownsRow w.heap.size 229 2 (.slice A qs.length c) qs.length (pcl qs)/\(∀ q∈qs,PrI w' q)/\Below w.heap.size w w'
theorem read_in(n:Nat)(hn:3<=n)(L:List Nat)(A:Option Addr)(k c:Nat)(w:World)(hk:L.length=k)(hc:k<=c)(hL:k<=100000)(hs:∀ x∈L,Puny.sca x=true)(h9:∀ p∈lab L,p.length<=900)(hr:RT w A (ofN L)) :
  CallsIn Fence.wide n Tryz.prog 147 #[.slice A k c] w (RdsR L w):=by
 have h1:1<=n:=by omega
 obtain⟨i0,hi,hz0,hz1,hz2⟩:=info_sp info_part
 have hsg:Sgp w L ⟨L,A,k,c⟩:=⟨hk,hc,hr,fun _ h=>h,by show k<=L.length;omega⟩
 have hL2:L.length<=100000:=by omega
 have HS:=Lib.hid hs
 have H9:=Lib.hid h9
 have HK:=Lib.hid hk
 clear hs h9 hr hk
 refine callsIn_of_wp_marks Tryz.func147 rfl trivial ?_ rfl
 simp only[Tryz.ntmps147,List.size_toArray,List.length_cons,List.length_nil,Nat.reduceAdd,Nat.reduceSub,Array.replicate_succ,Array.replicate_zero,List.push_toArray,List.append_toArray,List.nil_append,List.cons_append]
 gi_wp2_with (refine⟨trivial, ?_⟩;gi_at_call 194;refine (labels_any _ _ _ _ _).mono ?_;rintro e w' ⟨rfl,rfl⟩)
 have b0:=(((Boxed.new w 190 (.slice none 0 0)).alloc (.cells #[.int .i64 0] 29)).alloc (.cells #[.slice none 0 0] 190)).alloc (.cells #[.slice A k c] 22)
 have b1:=((Boxed.new (w.alloc (.cells #[.slice none 0 0] 190)) 29 (.int .i64 0)).alloc (.cells #[.slice none 0 0] 190)).alloc (.cells #[.slice A k c] 22)
 have b2:=(Boxed.new ((w.alloc (.cells #[.slice none 0 0] 190)).alloc (.cells #[.int .i64 0] 29)) 190 (.slice none 0 0)).alloc (.cells #[.slice A k c] 22)
 have b3:=Boxed.new (((w.alloc (.cells #[.slice none 0 0] 190)).alloc (.cells #[.int .i64 0] 29)).alloc (.cells #[.slice none 0 0] 190)) 22 (.slice A k c)
 simp only[World.size_alloc]at b0 b1 b2 b3
 have hB0:Below w.heap.size w ((((w.alloc (.cells #[.slice none 0 0] 190)).alloc (.cells #[.int .i64 0] 29)).alloc (.cells #[.slice none 0 0] 190)).alloc (.cells #[.slice A k c] 22)):=((((Below.refl _ w).alloc (Nat.le_refl _) _).alloc (by simp) _).alloc (by simp;omega) _).alloc (by simp;omega) _
 have hsz:((((w.alloc (.cells #[.slice none 0 0] 190)).alloc (.cells #[.int .i64 0] 29)).alloc (.cells #[.slice none 0 0] 190)).alloc (.cells #[.slice A k c] 22)).heap.size=w.heap.size+4:=by simp
 obtain⟨W0,hW0⟩:∃ W0,(((w.alloc (.cells #[.slice none 0 0] 190)).alloc (.cells #[.int .i64 0] 29)).alloc (.cells #[.slice none 0 0] 190)).alloc (.cells #[.slice A k c] 22)=W0:=⟨_,rfl⟩
 rw[hW0]at b0 b1 b2 b3 hB0 hsz ⊢
 clear hW0
 refine wpIn_rangeFunc_ownH (F:=Fence.wide) rfl h1 (gf:=241) (lb:=#[.pointer (some ⟨w.heap.size+1+1+1,0,none⟩)]) rfl trivial (enters_of Tryz.func241 (by kernel_rfl) rfl)
  (labels_stops (n-1) (by omega) (w.heap.size+1+1+1) w L ⟨L,A,k,c⟩ hsg rfl hL2 W0 hB0 b3) Fou.KpB.t (Fou.KpB.b (by omega) (by omega)) (Below.refl _ _) (fun _=>rfl)
  (RdI w L (.slice A k c))
  (RdX w L)
  (by rw[hsz];exact rdI_own w L _)
  (by rw[hsz];exact fun c=>rdX_own w L c)
  ⟨⟨⟨_,[],⟨b2,World.ownsRow_nil _ _ _ _⟩,rfl,by simp⟩,⟨b0,b1⟩,b3⟩,hB0⟩
  (fun x a' _=>a' = { tmps:=#[.slice A k c,undef,.pointer (some ⟨w.heap.size,0,none⟩),.pointer (some ⟨w.heap.size+1,0,none⟩),.pointer (some ⟨w.heap.size+1+1,0,none⟩),.slice x.1.A x.1.n x.1.c,undef,undef,.slice A k c,.func (.func 241) #[] #[.pointer (some ⟨w.heap.size+1+1+1,0,none⟩)],.slice x.1.A x.1.n x.1.c,undef,undef,undef,undef,undef,undef,undef,undef,undef,undef,undef,undef,undef],defers:=[] })
  (fun _ _ _ _ _ _ hs _ _=>hs)
  ?assign ?body ?done ?stop
 case assign =>
  rintro l' pre x W K hI hK
  simp only[encG]
  gi_wp2
  exact hK _ _ (KeepsFrom.refl _ _) ⟨Below.refl _ _,rfl⟩ hI rfl
 case body =>
  rintro l' pre ⟨⟨l,A1,m,c1⟩,hp,hmem⟩ a' W hl ⟨r',hr'⟩ ⟨⟨⟨v,qs,⟨hv,hrow⟩,hqs,hqi⟩,⟨bx0,bx1⟩,bx3⟩,hB1⟩ rfl hlt
  obtain⟨hlen,hmc,hrt,hmm,_⟩:=hp
  dsimp only at hlen hmc hrt hmm hmem ⊢
  have hm9:m<=900:=by rw[<-hlen];exact H9.out l hmem
  have HR:=Lib.hid (readOne_any l A1 m c1 W hlen hm9 hmc (fun x hx=>HS.out x (hmm x hx)) (hrt.below hB1))
  obtain⟨rv,hrv⟩:∃ rv,rdv l=rv:=⟨_,rfl⟩
  rw[hrv]at HR
  have HRV:=Lib.hid hrv
  clear hrv
  cases rv with
  | inl x =>
   have hx:(x != 0)=true:=by rcases rdv_inl HRV.out with rfl|rfl<;>rfl
   gi_wp2_with fail
   refine⟨trivial,(fun h=>by cases h),(CallsIn.inRound l' (callsIn_wide.2 HR.out)).mono ?_⟩
   rintro e w1 ⟨rfl,hB2⟩
   have bx0:=box_go bx0 hB2
   have bx1:=box_go bx1 hB2
   have hc0:=bx0.cell
   have hf0:=bx0.frozen
   have hl0:=bx0.lt
   have hc1:=bx1.cell
   have hf1:=bx1.frozen
   have hl1:=bx1.lt
   gi_wp2_with fail
   have HBw:=hB1.trans (hB2.mono hB1.size)
   refine⟨((((keeps_below hB2).trans (KeepsOthers.setCell _ _ _)).trans (KeepsOthers.setCell _ _ _)).trans (KeepsOthers.alloc _ _)).from _,⟨x,⟨rfl,(fun e=>by rw[e]at hx;cases hx),pre.map dsg,l,x,by rw[List.map_append];rfl,HRV.out⟩,((bx0.set _).other (by omega) _).alloc _,((bx1.other (by omega) _).set _).alloc _⟩, ?_⟩
   exact ((HBw.setCell (p:=⟨w.heap.size,0,none⟩) (Nat.le_refl _) _).setCell (p:=⟨w.heap.size+1,0,none⟩) (Nat.le_succ _) _).alloc (by simp[World.setCell];exact HBw.size) _
  | inr p =>
   gi_wp2_with fail
   refine⟨trivial,(fun h=>by cases h),(CallsIn.inRound l' (callsIn_wide.2 HR.out)).mono ?_⟩
   rintro e w1 ⟨s1,A2,c2,rfl,hs1,hT2,hB2⟩
   have hv1:=box_go hv hB2
   have hc2:=hv1.cell
   have hf2:=hv1.frozen
   have hl2:=hv1.lt
   have hrow1:=(own_below hrow hB2).alloc (.cells #[.string s1,.slice A2 p.2.length c2] 229)
   have hv2:=hv1.alloc (.cells #[.string s1,.slice A2 p.2.length c2] 229)
   have HBw:=hB1.trans (hB2.mono hB1.size)
   have hsw:w.heap.size<=(w1.alloc (.cells #[.string s1,.slice A2 p.2.length c2] 229)).heap.size:=by
    have:=HBw.size
    simp
    omega
   have hpl:pre.length<=100001:=by
    have h1:=lab_len L
    have h2:=HK.out
    omega
   have hBx:=upA w1 (.cells #[.string s1,.slice A2 p.2.length c2] 229)
   gi_wp2_with (gi_at_builtin;go_loud (refine wpListIn_append_own _ rfl _ _ 190 rfl w.heap.size 229 i0 (.agg #[.string ⟨#[]⟩,.slice none 0 0]) 2 40 Tryz.underlying190 hi hz0 hz1 hz2 rfl (by decide) _ _ _ rfl (hrow1.alloc _) ⟨w1.heap.size+1,0,none⟩ 1 1 [.string s1,.slice A2 p.2.length c2] rfl rfl (by have:=news_new (w1.alloc (.cells #[.string s1,.slice A2 p.2.length c2] 229)) #[.string s1,.slice A2 p.2.length c2] 229 [.string s1,.slice A2 p.2.length c2] rfl;rw[World.size_alloc]at this;exact this) (by simp[Value.oneCell']) (by unfold maxLen;omega) (by omega) (by simp;omega) ?_;intro v' w2 hown' hgrow _;obtain⟨g',cap',rfl⟩:=ownsRow_succ hown';obtain⟨hv3,hv4,hr4,hk4,hb4⟩:=hv2.appended (by decide) hrow1 hsw (by omega) hown' hgrow;have hc3:=hv3.cell;have hf3:=hv3.frozen))
   have hbW:=((hB2.mono hB1.size).trans (hBx.mono HBw.size)).trans hb4
   have hbx0:=box_past (B:=w.heap.size+1+1) (v':=.slice (some ⟨g',0,none⟩) (pre.length+1) cap') ((box_go bx0 hB2).alloc _) (by decide) hrow1 hgrow (by omega)
   have hbx1:=box_past (B:=w.heap.size+1+1) (v':=.slice (some ⟨g',0,none⟩) (pre.length+1) cap') ((box_go bx1 hB2).alloc _) (by decide) hrow1 hgrow (by omega)
   have hbx3:=box_past (B:=w.heap.size+1+1) (v':=.slice (some ⟨g',0,none⟩) (pre.length+1) cap') ((box_go bx3 hB2).alloc _) (by decide) hrow1 hgrow (by omega)
   have hpv:(dl s1,p.2)=p:=by rw[hs1]
   refine⟨(((keeps_below hB2).trans (KeepsOthers.alloc _ _)).trans hk4).from _,⟨hbW,hbx3.trans bx3.symm⟩,⟨⟨_,qs++[⟨s1,A2,p.2.length,c2,p.2⟩],⟨hv4, ?_⟩, ?_, ?_⟩,⟨hbx0,hbx1⟩,hbx3⟩,hB1.trans hbW⟩
   ·rw[pcl_snoc,List.length_append]
    exact hr4
   ·rw[List.map_append,List.map_append]
    refine (rds_snoc hqs HRV.out).trans ?_
    show some (qs.map Pr.val++[p])=some (qs.map Pr.val++[(dl s1,p.2)])
    rw[hpv]
   ·intro q hq
    have hp1:PrI (w1.alloc (.cells #[.string s1,.slice A2 p.2.length c2] 229)) q:=by
     rcases List.mem_append.1 hq with hq|hq
     ·exact ((hqi q hq).below hB2).below hBx
     ·rw[List.mem_singleton]at hq
      subst hq
      exact⟨rfl,(by
       have h1:=rdv_len HRV.out
       show p.2.length<=4000
       omega),hT2.below hBx⟩
    exact rd_past hp1 hrow1 hgrow hv3
 case done =>
  rintro D ys W hD hys ⟨⟨⟨v,qs,⟨hv,hrow⟩,hqs,hqi⟩,⟨bx0,bx1⟩,bx3⟩,hB1⟩ hK
  obtain⟨m,hm⟩:∃ m,ys.length=m+1:=⟨ys.length-1,by
   have h1:=congrArg List.length hys
   rw[List.length_map]at h1
   have h2:=List.length_pos_iff.2 (lab_ne L)
   omega⟩
  have hql:qs.length=ys.length:=by have:=rds_len hqs;rwa [List.length_map,List.length_map]at this
  have hall:rds (lab L)=some (qs.map Pr.val):=by rw[<-hqs];exact congrArg rds hys.symm
  rw[hm]at hrow hql
  obtain⟨g,cap,rfl⟩:=ownsRow_succ hrow
  have hc:=hv.cell
  have hc0:=bx0.cell
  have hf0:=bx0.frozen
  have hc1:=bx1.cell
  have hf1:=bx1.frozen
  have HALL:=Lib.hid hall
  have HQI:=Lib.hid hqi
  have HQL:=Lib.hid hql
  have HM:=Lib.hid hm
  clear hall hqi hys hqs hql hm
  gi_wp2
  have n0:=(bx0.set (.slice (some ⟨g,0,none⟩) (m+1) cap)).other (B':=w.heap.size+1) (by omega) (.int .i64 0)
  have n1:=(bx1.other (B':=w.heap.size) (by omega) (.slice (some ⟨g,0,none⟩) (m+1) cap)).set (.int .i64 0)
  have hK':=(KeepsOthers.setCell (W.setCell ⟨w.heap.size,0,none⟩ (.slice (some ⟨g,0,none⟩) (m+1) cap)) ⟨w.heap.size+1,0,none⟩ (.int .i64 0)).same D _ ((KeepsOthers.setCell W ⟨w.heap.size,0,none⟩ (.slice (some ⟨g,0,none⟩) (m+1) cap)).same D _ hK rfl) rfl
  refine⟨by simp,.inl ⟨_,_,rfl,run_takeDeferred hK', ?_⟩⟩
  refine⟨_,results_rd ((World.putObj_heap_other (by omega)).trans n0) ((World.putObj_heap_other (by omega)).trans n1),.inr ⟨qs,_,cap,HALL.out,by rw[HQL.out], ?_, ?_, ?_⟩⟩
  ·rw[HQL.out]
   refine ownsRow_putObj ((hrow.kept (grownBy_setCell' W w.heap.size _) (.inr (bx0.not_row (by decide) hrow).symm)).kept (grownBy_setCell' _ (w.heap.size+1) _) (.inr ?_)) _ hK' rfl
   exact ((bx1.other (B':=w.heap.size) (by omega) (.slice (some ⟨g,0,none⟩) (m+1) cap)).not_row (by decide) (hrow.kept (grownBy_setCell' W w.heap.size _) (.inr (bx0.not_row (by decide) hrow).symm))).symm
  ·intro q hq
   exact (((HQI.out q hq).set bx0 (by decide) _).set (bx1.other (B':=w.heap.size) (by omega) (.slice (some ⟨g,0,none⟩) (m+1) cap)) (by decide) _).put _ hK' rfl
  ·exact (((hB1.setCell (p:=⟨w.heap.size,0,none⟩) (Nat.le_refl _) _).setCell (p:=⟨w.heap.size+1,0,none⟩) (Nat.le_succ _) _)).trans (belowK_b (w:=w) (Nat.le_refl _) _ D _ _ (by omega) hK' rfl rfl)
 case stop =>
  rintro D c pre W hD ⟨hpre,hpn⟩ ⟨⟨x,⟨rfl,hx,a,y,e,hay,hye⟩,bx0,bx1⟩,hB1⟩ hK
  have hno:rds (lab L)=none:=by
   obtain⟨t,ht⟩:=hpre
   rw[hay]at ht
   rw[<-ht]
   exact rds_stop t hye
  have hc0:=bx0.cell
  have hc1:=bx1.cell
  gi_wp2
  refine⟨by simp,.inl ⟨_,_,rfl,run_takeDeferred hK, ?_⟩⟩
  refine⟨_,results_rd ((World.putObj_heap_other (by omega)).trans bx0) ((World.putObj_heap_other (by omega)).trans bx1),.inl ⟨hno,x,hx,rfl, ?_⟩⟩
  exact hB1.trans (belowK_b (w:=w) (Nat.le_refl _) W D _ _ (by omega) hK rfl rfl)
end Go.Proofs.YtkibdkfdffkkfaaGreatDoor.Hst
namespace Go.Proofs.YtkibdkfdffkkfaaGreatDoor.Fou
open Go.RowKit Go.Shelf
def joinLaid_ren:Ren:=⟨fun|156=>201|165=>53|166=>54|169=>56|240=>95|241=>96|276=>153|277=>154|n=>n,fun|31=>45|9=>9|3=>3|4=>4|0=>0|20=>20|72=>84|76=>88|70=>82|37=>40|75=>87|127=>129|164=>198|5=>5|80=>80|n=>n,fun n=>n⟩
theorem joinLaid:Lays.n156 Tryz.prog joinLaid_ren:={
 mixed:=by kernel_rfl
 f156:=by kernel_rfl
 f165:=by kernel_rfl
 f166:=by kernel_rfl
 f169:=by kernel_rfl
 f240:=by kernel_rfl
 f241:=by kernel_rfl
 f276:=by kernel_rfl
 f277:=by kernel_rfl
 t0:=Tryz.underlying0
 a0:=Tryz.isAgg0
 z0:=Tryz.sizeOf0
 v0:=Tryz.zeroValue0
 t3:=Tryz.underlying3
 a3:=Tryz.isAgg3
 z3:=Tryz.sizeOf3
 v3:=Tryz.zeroValue3
 t4:=Tryz.underlying4
 a4:=Tryz.isAgg4
 z4:=Tryz.sizeOf4
 v4:=Tryz.zeroValue4
 t9:=Tryz.underlying9
 a9:=Tryz.isAgg9
 z9:=Tryz.sizeOf9
 v9:=Tryz.zeroValue9
 t20:=Tryz.underlying20
 a20:=Tryz.isAgg20
 z20:=Tryz.sizeOf20
 v20:=Tryz.zeroValue20
 t31:=Tryz.underlying45
 a31:=Tryz.isAgg45
 z31:=Tryz.sizeOf45
 v31:=Tryz.zeroValue45
 t37:=Tryz.underlying40
 a37:=Tryz.isAgg40
 z37:=Tryz.sizeOf40
 v37:=Tryz.zeroValue40
 t70:=Tryz.underlying82
 a70:=Tryz.isAgg82
 z70:=Tryz.sizeOf82
 v70:=Tryz.zeroValue82
 t72:=Tryz.underlying84
 a72:=Tryz.isAgg84
 z72:=Tryz.sizeOf84
 v72:=Tryz.zeroValue84
 t75:=Tryz.underlying87
 a75:=Tryz.isAgg87
 z75:=Tryz.sizeOf87
 v75:=Tryz.zeroValue87
 t76:=Tryz.underlying88
 a76:=Tryz.isAgg88
 z76:=Tryz.sizeOf88
 v76:=Tryz.zeroValue88
 t127:=Tryz.underlying129
 a127:=Tryz.isAgg129
 z127:=Tryz.sizeOf129
 v127:=Tryz.zeroValue129
 t164:=Tryz.underlying198
 a164:=Tryz.isAgg198
 z164:=Tryz.sizeOf198
 v164:=Tryz.zeroValue198
}
theorem joinExtra:Builder.Extra Tryz.prog joinLaid_ren where
 sizeBuilder:=by kernel_rfl
 liesBuilder:=by kernel_rfl
 t5:=Tryz.underlying5
 a5:=Tryz.isAgg5
 z5:=Tryz.sizeOf5
 v5:=Tryz.zeroValue5
 infoByte:=by kernel_rfl
 cellsByte:=by kernel_rfl
 sizeByte:=by kernel_rfl
 neB5:=by decide
def Texts (l:List UInt8) (w:World) (e:Ending) (w':World):Prop:=e = .returned (.string (bs l))/\Below w.heap.size w w'
theorem info_s:(Tryz.prog.info? 9).map (fun i=>(i.zero,i.size,i.bytes))=some (some (.string ByteArray.empty),1,16):=by kernel_rfl
end Go.Proofs.YtkibdkfdffkkfaaGreatDoor.Fou
