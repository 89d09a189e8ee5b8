/-
  HostForbidden: one code point between letters a and b: read as a host of no special scheme it is refused where the code point is forbidden in a host, and nowhere else; read as one of a special scheme it is refused where it is forbidden in a domain; what is forbidden in a host is so in a domain, and is of ASCII; there are 17 such: the law returns true.
  Conditions: those of the card (the variables that the row lists are laid as the program's text lays them).
-/
import Derived.Test.YtediahdedmkehaaGreatDoorPk47
import Derived.Test.YtediahdedmkehaaGreatDoorPk48
import Derived.Test.YtediahdedmkehaaGreatDoorTie
import Derived.Test.YtediahdedmkehaaGreatDoorCards
import Derived.Test.YtediahdedmkehaaGreatDoorPk34
import Derived.Test.YtediahdedmkehaaGreatDoorFactHostForbiddenC
import Derived.Test.YtediahdedmkehaaGreatDoorFactHostForbiddenD
import Derived.ProofKit
import Derived.Lay
import Derived.Stop.Joined
import Derived.SevenTiedAt
namespace Go.Proofs.YtediahdedmkehaaGreatDoor.hostForbidden
set_option maxRecDepth 100000
open Go.ChangeShapes Go.WideShapes Go.ChangeAt Go.RowKit Sx
open Go.ChangeMaps (open_string shut_string)
theorem walk (r a1 a2:Int) (w:World) (hr1:-2147483648≤r) (hr2:r≤2147483647) (g1:0≤a1) (g1':a1≤255) (g2:0≤a2) (g2':a2≤255) (hE:Env w) :
   Calls Tryz.prog 7 #[.int .i32 r,.int .u8 a1,.int .u8 a2] w (fun e w'=>e = .returned (.bool true)∧Below w.heap.size w w') :=
 Hst.forbidden_any r a1 a2 w hr1 hr2 g1 g1' g2 g2' hE
set_option linter.unusedVariables false
theorem own:ownKnob Tryz.prog.godebug=none:=by kernel_rfl
theorem laidOut:laidOutB Tryz.prog=true:=by kernel_rfl
set_option maxRecDepth 100000 in
theorem lifted (os:Os) (started:os.Started) (H:Type) (enc:TypeId × Value→H) :
   ReturnsInHanded {} Tryz.checked os 7 .any (fun w args=>(Rows.hostForbiddenSpec.pre enc Tryz.prog Tryz.f7 [] false w args∧laidMetH Tryz.prog Rows.hostForbiddenRow.laid w)∧sizedMet enc Tryz.prog Tryz.f7 (OpenSpec.ofChange Rows.hostForbiddenSpec) false w args)
     (Rows.hostForbiddenSpec.post enc Tryz.prog Tryz.f7 false true false false):=by
 refine returnsIn_and_shaped (C:=Tryz.checked) (X:=fun w _=>laidMetH Tryz.prog Rows.hostForbiddenRow.laid w) (fun _ _ _ hh h=>h.of_heap hh) own started (by kernel_rfl) Tryz.func7
   (ChangeSpec.witness_shaped (enc:=enc) (C:=Tryz.checked) (os:=os) (X:=fun w _=>laidMetH Tryz.prog Rows.hostForbiddenRow.laid w) false (World.laidAll Tryz.prog os Rows.hostForbiddenRow.laid) #[.int .i32 0,.int .u8 0,.int .u8 0] 8 (World.laidAll_os _ _ _)
     (World.shaped_of_ZipB (by kernel_rfl) (by kernel_rfl)) (by kernel_rfl) (by kernel_rfl) (by kernel_rfl)
     (by rw [MakeChecks.laidMetH_plain _ _ _ (by kernel_rfl)];exact laidMet_laidAll _ (by kernel_rfl) (by kernel_rfl))) ?_
 intro W base args ds gs before hval0 hW _ _ hL hsh _
 have hval:∀ (j:Nat) t v,Tryz.f7.params[j]? = some t→args[j]? = some v→Value.okWide Tryz.prog W .any base t v:=hval0
 have hW':=hW
 obtain ⟨p,q,hA0,hV,rfl,_,_⟩:=hW
 have hA:DataW.TrodAll enc Tryz.prog W 0 (fun _=>true) true Tryz.f7.params.toList args.toList ds p:=hA0
 rw [Tryz.params7]at hA hval
 obtain ⟨v0,vs0,d0,ds0,p0,q0,hargs,rfl,rfl,h0,r0⟩:=trodAll_cons hA
 obtain ⟨v1,vs1,d1,ds1,p1,q1,rfl,rfl,rfl,h1,r1⟩:=trodAll_cons r0
 obtain ⟨v2,vs2,d2,ds2,p2,q2,rfl,rfl,rfl,h2,r2⟩:=trodAll_cons r1
 obtain ⟨rfl,rfl,rfl⟩:=trodAll_nil r2
 obtain rfl:args=#[v0,v1,v2]:=by cases args;simp_all
 obtain ⟨rfl,rfl⟩:=trodVars_none hV
 obtain ⟨a0,rfl,rfl,rfl,w0⟩:=open_int Tryz.underlying21 (hval 0 21 v0 rfl rfl) h0
 have b0:-2147483648≤a0∧a0≤2147483647:=by simpa [Lit.wf,IntKind.min,IntKind.max,IntKind.signed,IntKind.bits] using w0
 obtain ⟨a1,rfl,rfl,rfl,w1⟩:=open_int Tryz.underlying5 (hval 1 5 v1 rfl rfl) h1
 have b1:0≤a1∧a1≤255:=by simpa [Lit.wf,IntKind.min,IntKind.max,IntKind.signed,IntKind.bits] using w1
 obtain ⟨a2,rfl,rfl,rfl,w2⟩:=open_int Tryz.underlying5 (hval 2 5 v2 rfl rfl) h2
 have b2:0≤a2∧a2≤255:=by simpa [Lit.wf,IntKind.min,IntKind.max,IntKind.signed,IntKind.bits] using w2
 clear hA0 hval0
 rw [MakeChecks.laidMetH_plain _ _ _ (by kernel_rfl)]at hL
 have hEnv:Env W:=env_of hsh (Lib.laidMet.reads hL (.tail _ (.head _))) (Lib.laidMet.reads hL (.tail _ (.tail _ (.head _)))) (Lib.laidMet.reads hL (.tail _ (.tail _ (.tail _ (.tail _ (.head _)))))) (Lib.laidMet.reads hL (.tail _ (.tail _ (.tail _ (.tail _ (.tail _ (.head _)))))))
 refine (walk a0 a1 a2 W b0.1 b0.2 b1.1 b1.2 b2.1 b2.2 hEnv).mono fun e W' ⟨he,bel⟩ => ?_
 subst he
 exact ⟨_,rfl,_,_,_,[],_,[],hW',trodAll_mk1 (shut_bool Tryz.underlying4 _),(trodAll_cons_mk (shut_int Tryz.underlying21 w0) (trodAll_cons_mk (shut_int Tryz.underlying5 w1) (trodAll_cons_mk (shut_int Tryz.underlying5 w2) trodAll_mk0))),rfl,bel.frame _,fun h=>by cases h⟩
theorem row_holds:Rows.HostForbiddenSaid :=
 OpenClaim.holds_of_wide 7 Tryz.f7 rfl rfl rfl rfl rfl rfl rfl ⟨rfl,rfl,rfl,rfl,rfl⟩ rfl rfl rfl rfl rfl factNamed Tryz.func7 factClosed
   (of_decide_eq_true factInst) factWrap
   (fun os started H enc _=>lifted os started H enc)
theorem proved:Rows.HostForbiddenCardSaid :=
 Claim7.holds_tied_plain_at .later [] [.data, .data, .data, .data, .sentinel, .sentinel, .pinned] true (true, "caeae66d0ac8e7ecbe9b5413e61e95a2dacf9bc82edc42200cf758e6523b2a4a") true
   row_holds (fun _ h=>by cases h) factWf (fun _ h=>by cases h) hostForbidden_row_tie rfl ⟨rfl,rfl⟩ factMain rfl
   (fun f fn hf hfn=>by
     obtain rfl:f=7:=Option.some.inj (factNamed.symm.trans hf) |>.symm
     obtain rfl:fn=Tryz.f7:=(Option.some.inj (Tryz.func7.symm.trans hfn)).symm
     exact ⟨factLooks,fun j t ht=>by
       rw [Tryz.params7]at ht
       have hm:t∈[21,5,5]:=by simpa using Array.mem_of_getElem? ht
       have hall:=factStand
       exact (show Tryz.prog.wantsStandIn t=false by simpa using List.all_eq_true.1 hall t hm)⟩)
   factGoes
end Go.Proofs.YtediahdedmkehaaGreatDoor.hostForbidden
