/-
  HostPercent: code points without % of a special scheme's host, and the same with some of their bytes percent coded (and all that are no ASCII), are read alike, or refused alike: the law returns true.
  Conditions: those of the card (the variables that the row lists are laid as the program's text lays them).
-/
import Derived.Test.YtkibdkfdffkkfaaGreatDoorPk47
import Derived.Test.YtkibdkfdffkkfaaGreatDoorPk49
import Derived.Test.YtkibdkfdffkkfaaGreatDoorPk48
import Derived.Test.YtkibdkfdffkkfaaGreatDoorTie
import Derived.Test.YtkibdkfdffkkfaaGreatDoorCards
import Derived.Test.YtkibdkfdffkkfaaGreatDoorPk34
import Derived.Test.YtkibdkfdffkkfaaGreatDoorFactHostPercentC
import Derived.Test.YtkibdkfdffkkfaaGreatDoorFactHostPercentD
import Derived.ProofKit
import Derived.Lay
import Derived.Stop.Joined
import Derived.SevenTiedAt
set_option maxRecDepth 100000
set_option maxHeartbeats 8000000
namespace Go.Proofs.YtkibdkfdffkkfaaGreatDoor.hostPercent
open Go.ChangeShapes Go.WideShapes Go.ChangeAt Go.RowKit Sx
open Go.ChangeMaps (open_string shut_string)
theorem walk(a1:Option Addr)(n1 c1:Nat)(l:List Int)(a2:Option Addr)(n2 c2:Nat)(us:List Bool)(w:World)(h1:InRow .i32 w a1 n1 c1 l)(h2:Hst.InBools w a2 n2 c2 us)(hE:Env w) :
  Calls Tryz.prog 4 #[.slice a1 n1 c1,.slice a2 n2 c2] w (fun e w'=>e = .returned (.bool true)/\Below w.heap.size w w') :=
 Hst.percent_any l a1 n1 c1 us a2 n2 c2 w h1.1 h1.2.2.2.1 h2.1 h2.2.2.2 hE
set_option linter.unusedVariables false
theorem own:ownKnob Tryz.prog.godebug=none:=by kernel_rfl
theorem laidOut:laidOutB Tryz.prog=true:=by kernel_rfl
theorem lifted(os:Os)(started:os.Started)(H:Type)(enc:TypeId × Value->H) :
  ReturnsInHanded {} Tryz.checked os 4 .any (fun w args=>(Rows.hostPercentSpec.pre enc Tryz.prog Tryz.f4 [] false w args/\laidMetH Tryz.prog Rows.hostPercentRow.laid w)/\sizedMet enc Tryz.prog Tryz.f4 (OpenSpec.ofChange Rows.hostPercentSpec) false w args)
   (Rows.hostPercentSpec.post enc Tryz.prog Tryz.f4 false true false false):=by
 refine returnsIn_and_shaped (C:=Tryz.checked) (X:=fun w _=>laidMetH Tryz.prog Rows.hostPercentRow.laid w) (fun _ _ _ hh h=>h.of_heap hh) own started (by kernel_rfl) Tryz.func4
  (ChangeSpec.witness_shaped (enc:=enc) (C:=Tryz.checked) (os:=os) (X:=fun w _=>laidMetH Tryz.prog Rows.hostPercentRow.laid w) false (World.laidAll Tryz.prog os Rows.hostPercentRow.laid) #[.slice none 0 0,.slice none 0 0] 8 (World.laidAll_os _ _ _)
   (World.shaped_of_ZipB (by kernel_rfl) (by kernel_rfl)) (by kernel_rfl) (by kernel_rfl) (by kernel_rfl)
   (by rw[MakeChecks.laidMetH_plain _ _ _ (by kernel_rfl)];exact laidMet_laidAll _ (by kernel_rfl) (by kernel_rfl))) ?_
 intro W base args ds gs before hval0 hW _ _ hL hsh _
 have hval:∀ (j:Nat) t v,Tryz.f4.params[j]? = some t->args[j]? = some v->Value.okWide Tryz.prog W .any base t v:=hval0
 have hW':=hW
 obtain⟨p,q,hA0,hV,rfl,_,_⟩:=hW
 have hA:DataW.TrodAll enc Tryz.prog W 0 (fun _=>true) true Tryz.f4.params.toList args.toList ds p:=hA0
 rw[Tryz.params4]at hA hval
 obtain⟨v0,vs0,d0,ds0,p0,q0,hargs,rfl,rfl,h0,r0⟩:=trodAll_cons hA
 obtain⟨v1,vs1,d1,ds1,p1,q1,rfl,rfl,rfl,h1,r1⟩:=trodAll_cons r0
 obtain⟨rfl,rfl,rfl⟩:=trodAll_nil r1
 obtain rfl:args=#[v0,v1]:=by cases args;simp_all
 obtain⟨rfl,rfl⟩:=trodVars_none hV
 obtain⟨a0,len0,cap0,rfl⟩:=okWide_slice Tryz.underlying22 (hval 0 22 v0 rfl rfl)
 have k0:=h0
 have lt0:∀ x∈p0,x.block<W.heap.size:=by obtain⟨m,hm⟩:=k0;exact DataW.trod_lt m _ _ _ hm
 obtain⟨z0,w0⟩:=in_row Tryz.underlying22 Tryz.underlying21 (by kernel_rfl) h0
 obtain⟨a1,len1,cap1,rfl⟩:=okWide_slice Tryz.underlying38 (hval 1 38 v1 rfl rfl)
 have k1:=h1
 have lt1:∀ x∈p1,x.block<W.heap.size:=by obtain⟨m,hm⟩:=k1;exact DataW.trod_lt m _ _ _ hm
 obtain⟨z1,w1⟩:=Hst.in_bools Tryz.underlying38 Tryz.underlying4 (by kernel_rfl) h1
 clear hA0 hval0
 rw[MakeChecks.laidMetH_plain _ _ _ (by kernel_rfl)]at hL
 have hEnv:Env W:=env_of hsh (Lib.laidMet.reads hL (.tail _ (.head _))) (Lib.laidMet.reads hL (.tail _ (.tail _ (.head _)))) (Lib.laidMet.reads hL (.tail _ (.tail _ (.tail _ (.tail _ (.head _)))))) (Lib.laidMet.reads hL (.tail _ (.tail _ (.tail _ (.tail _ (.tail _ (.head _)))))))
 refine (walk a0 len0 cap0 z0 a1 len1 cap1 z1 W w0 w1 hEnv).mono fun e W' ⟨he,bel⟩ => ?_
 subst he
 exact⟨_,rfl,_,_,_,[],_,[],hW',trodAll_mk1 (shut_bool Tryz.underlying4 _),(trodAll_cons_mk (Below.trod laidOut (by kernel_rfl) (of_decide_eq_true (by kernel_rfl)) k0 bel lt0) (trodAll_cons_mk (Below.trod laidOut (by kernel_rfl) (of_decide_eq_true (by kernel_rfl)) k1 bel lt1) trodAll_mk0)),rfl,bel.frame _,fun h=>by cases h⟩
theorem row_holds:Rows.HostPercentSaid :=
 OpenClaim.holds_of_wide 4 Tryz.f4 rfl rfl rfl rfl rfl rfl rfl ⟨rfl,rfl,rfl,rfl,rfl⟩ rfl rfl rfl rfl rfl factNamed Tryz.func4 factClosed
  (of_decide_eq_true factInst) factWrap
  (fun os started H enc _=>lifted os started H enc)
theorem proved:Rows.HostPercentCardSaid :=
 Claim7.holds_tied_plain_at .later [] [.data, .data, .data, .data, .sentinel, .sentinel, .pinned] true (true, "137039b85e0da20ee66a3b523a77f33db3625a659d975c50b28fb1670cb6d55a") true
  row_holds (fun _ h=>by cases h) factWf (fun _ h=>by cases h) hostPercent_row_tie rfl ⟨rfl,rfl⟩ factMain rfl
  (fun f fn hf hfn=>by
   obtain rfl:f=4:=Option.some.inj (factNamed.symm.trans hf) |>.symm
   obtain rfl:fn=Tryz.f4:=(Option.some.inj (Tryz.func4.symm.trans hfn)).symm
   exact⟨factLooks,fun j t ht=>by
    rw[Tryz.params4]at ht
    have hm:t∈[22,38]:=by simpa using Array.mem_of_getElem? ht
    have hall:=factStand
    exact (show Tryz.prog.wantsStandIn t=false by simpa using List.all_eq_true.1 hall t hm)⟩)
  factGoes
end Go.Proofs.YtkibdkfdffkkfaaGreatDoor.hostPercent
