/-
  HostAddresses: an IPv4 address as it is shown is read as that address with a special scheme, also with a point behind it, and as a name with another one; an IPv6 address in brackets is read as that address with both, and both are shown as they were; without the bracket that ends, or with a byte more, it is none, and without the bracket that begins it is no host: the law returns true.
  Conditions: those of the card (the variables that the row lists are laid as the program's text lays them).
-/
import Derived.Test.YtediahdedmkehaaGreatDoorPk45
import Derived.Test.YtediahdedmkehaaGreatDoorPk46
import Derived.Test.YtediahdedmkehaaGreatDoorTie
import Derived.Test.YtediahdedmkehaaGreatDoorCards
import Derived.Test.YtediahdedmkehaaGreatDoorPk47
import Derived.Test.YtediahdedmkehaaGreatDoorFactHostAddressesC
import Derived.Test.YtediahdedmkehaaGreatDoorFactHostAddressesD
import Derived.ProofKit
import Derived.Lay
import Derived.Stop.Joined
import Derived.SevenTiedAt
set_option maxRecDepth 100000
set_option maxHeartbeats 8000000
namespace Go.Proofs.YtediahdedmkehaaGreatDoor.hostAddresses
open Go.ChangeShapes Go.WideShapes Go.ChangeAt Go.RowKit Sx
open Go.ChangeMaps (open_string shut_string)
theorem walk(a0:Int)(y:List Nat)(c:Int)(w:World)(h0:0<=a0)(h0':a0<=4294967295)(hy8:y.length=8)(hy16:∀ m∈y,m<65536)(c0:0<=c)(c1:c<=255)(hE:Env w) :
  Calls Tryz.prog 6 #[.int .u32 a0,av y,.int .u8 c] w (fun e w'=>e = .returned (.bool true)/\Below w.heap.size w w'):=by
 obtain⟨x,rfl⟩:=Int.eq_ofNat_of_zero_le h0
 exact Hst.addresses_any x y c w (by omega) hy8 hy16 c0 c1 hE
set_option linter.unusedVariables false
theorem own:ownKnob Tryz.prog.godebug=none:=by kernel_rfl
theorem laidOut:laidOutB Tryz.prog=true:=by kernel_rfl
theorem lifted(os:Os)(started:os.Started)(H:Type)(enc:TypeId × Value->H) :
  ReturnsInHanded {} Tryz.checked os 6 .any (fun w args=>(Rows.hostAddressesSpec.pre enc Tryz.prog Tryz.f6 [] false w args/\laidMetH Tryz.prog Rows.hostAddressesRow.laid w)/\sizedMet enc Tryz.prog Tryz.f6 (OpenSpec.ofChange Rows.hostAddressesSpec) false w args)
   (Rows.hostAddressesSpec.post enc Tryz.prog Tryz.f6 false true false false):=by
 refine returnsIn_and_shaped (C:=Tryz.checked) (X:=fun w _=>laidMetH Tryz.prog Rows.hostAddressesRow.laid w) (fun _ _ _ hh h=>h.of_heap hh) own started (by kernel_rfl) Tryz.func6
  (ChangeSpec.witness_shaped (enc:=enc) (C:=Tryz.checked) (os:=os) (X:=fun w _=>laidMetH Tryz.prog Rows.hostAddressesRow.laid w) false (World.laidAll Tryz.prog os Rows.hostAddressesRow.laid) #[.int .u32 0,.agg #[.int .u16 0,.int .u16 0,.int .u16 0,.int .u16 0,.int .u16 0,.int .u16 0,.int .u16 0,.int .u16 0],.int .u8 0] 8 (World.laidAll_os _ _ _)
   (World.shaped_of_ZipB (by kernel_rfl) (by kernel_rfl)) (by kernel_rfl) (by kernel_rfl) (by kernel_rfl)
   (by rw[MakeChecks.laidMetH_plain _ _ _ (by kernel_rfl)];exact laidMet_laidAll _ (by kernel_rfl) (by kernel_rfl))) ?_
 intro W base args ds gs before hval0 hW _ _ hL hsh _
 have hval:∀ (j:Nat) t v,Tryz.f6.params[j]? = some t->args[j]? = some v->Value.okWide Tryz.prog W .any base t v:=hval0
 have hW':=hW
 obtain⟨p,q,hA0,hV,rfl,_,_⟩:=hW
 have hA:DataW.TrodAll enc Tryz.prog W 0 (fun _=>true) true Tryz.f6.params.toList args.toList ds p:=hA0
 rw[Tryz.params6]at hA hval
 obtain⟨v0,vs0,d0,ds0,p0,q0,hargs,rfl,rfl,h0,r0⟩:=trodAll_cons hA
 obtain⟨v1,vs1,d1,ds1,p1,q1,rfl,rfl,rfl,h1,r1⟩:=trodAll_cons r0
 obtain⟨v2,vs2,d2,ds2,p2,q2,rfl,rfl,rfl,h2,r2⟩:=trodAll_cons r1
 obtain⟨rfl,rfl,rfl⟩:=trodAll_nil r2
 obtain rfl:args=#[v0,v1,v2]:=by cases args;simp_all
 obtain⟨rfl,rfl⟩:=trodVars_none hV
 obtain⟨a0,rfl,rfl,rfl,w0⟩:=open_int Tryz.underlying23 (hval 0 23 v0 rfl rfl) h0
 have b0:0<=a0/\a0<=4294967295:=by simpa[Lit.wf,IntKind.min,IntKind.max,IntKind.signed,IntKind.bits] using w0
 obtain⟨xs1,rfl,n1⟩:=WideMaps.okWide_arr arr8_key (hval 1 25 v1 rfl rfl)
 have k1:=h1
 obtain⟨rfl,x1,l1,m1,rfl⟩:=arr8_open n1 h1
 have lt1:∀ x∈([]:List MemPlace),x.block<W.heap.size:=fun x hx=>by cases hx
 obtain⟨a2,rfl,rfl,rfl,w2⟩:=open_int Tryz.underlying5 (hval 2 5 v2 rfl rfl) h2
 have b2:0<=a2/\a2<=255:=by simpa[Lit.wf,IntKind.min,IntKind.max,IntKind.signed,IntKind.bits] using w2
 clear hA0 hval0
 rw[MakeChecks.laidMetH_plain _ _ _ (by kernel_rfl)]at hL
 have hEnv:Env W:=env_of hsh (Lib.laidMet.reads hL (.tail _ (.head _))) (Lib.laidMet.reads hL (.tail _ (.tail _ (.head _)))) (Lib.laidMet.reads hL (.tail _ (.tail _ (.tail _ (.tail _ (.head _)))))) (Lib.laidMet.reads hL (.tail _ (.tail _ (.tail _ (.tail _ (.tail _ (.head _)))))))
 refine (walk a0 x1 a2 W b0.1 b0.2 l1 m1 b2.1 b2.2 hEnv).mono fun e W' ⟨he,bel⟩ => ?_
 subst he
 exact⟨_,rfl,_,_,_,[],_,[],hW',trodAll_mk1 (shut_bool Tryz.underlying4 _),(trodAll_cons_mk (shut_int Tryz.underlying23 w0) (trodAll_cons_mk (Below.trod laidOut (by kernel_rfl) (of_decide_eq_true (by kernel_rfl)) k1 bel lt1) (trodAll_cons_mk (shut_int Tryz.underlying5 w2) trodAll_mk0))),rfl,bel.frame _,fun h=>by cases h⟩
theorem row_holds:Rows.HostAddressesSaid :=
 OpenClaim.holds_of_wide 6 Tryz.f6 rfl rfl rfl rfl rfl rfl rfl ⟨rfl,rfl,rfl,rfl,rfl⟩ rfl rfl rfl rfl rfl factNamed Tryz.func6 factClosed
  (of_decide_eq_true factInst) factWrap
  (fun os started H enc _=>lifted os started H enc)
theorem proved:Rows.HostAddressesCardSaid :=
 Claim7.holds_tied_plain_at .later [] [.data, .data, .data, .data, .sentinel, .sentinel, .pinned] true (true, "caeae66d0ac8e7ecbe9b5413e61e95a2dacf9bc82edc42200cf758e6523b2a4a") true
  row_holds (fun _ h=>by cases h) factWf (fun _ h=>by cases h) hostAddresses_row_tie rfl ⟨rfl,rfl⟩ factMain rfl
  (fun f fn hf hfn=>by
   obtain rfl:f=6:=Option.some.inj (factNamed.symm.trans hf) |>.symm
   obtain rfl:fn=Tryz.f6:=(Option.some.inj (Tryz.func6.symm.trans hfn)).symm
   exact⟨factLooks,fun j t ht=>by
    rw[Tryz.params6]at ht
    have hm:t∈[23,25,5]:=by simpa using Array.mem_of_getElem? ht
    have hall:=factStand
    exact (show Tryz.prog.wantsStandIn t=false by simpa using List.all_eq_true.1 hall t hm)⟩)
  factGoes
end Go.Proofs.YtediahdedmkehaaGreatDoor.hostAddresses
