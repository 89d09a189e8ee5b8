import Derived.Test.YtkibdkfdffkkfaaGreatDoorPk24
set_option maxRecDepth 100000
set_option maxHeartbeats 8000000
namespace Go.Proofs.YtkibdkfdffkkfaaGreatDoor.Pn
open Go.RowKit Puny Go.Shelf Go.Sort
theorem isNaN_any(x:Int)(w:World):Calls Tryz.prog 393 #[.int .i32 x] w fun e w'=>e = .returned (.bool false)/\w=w':=by
 go_enter Tryz.func393,Tryz.ntmps393
 go_wp2
 go_ret
 exact⟨ret_bool (by simp),rfl⟩
theorem less_any(x y:Int)(w:World):Calls Tryz.prog 401 #[.int .i32 x,.int .i32 y] w fun e w'=>e = .returned (.bool (decide (x<y)))/\w=w':=by
 go_enter Tryz.func401,Tryz.ntmps401
 go_wp2_with(first|(go_at_call 393;refine (isNaN_any _ _).mono ?_;rintro e w' ⟨rfl,rfl⟩)|fail)
 go_ret
 exact⟨rfl,rfl⟩
def SmallInt (w:World) (e:Ending) (w':World):Prop:=∃ r:Nat,r<=1000/\e = .returned (.int .i64 (r:Int))/\w=w'
theorem small_w{k:Int}(b:UInt8)(h0:0<=k)(h1:k<=100):∃ r:Nat,r<=1000/\wrap64 (k+wrap64 (b.toNat:Int))=(r:Int):=by
 have hb:=b.toNat_lt
 have e1:wrap64 (b.toNat:Int)=(b.toNat:Int):=by unfold wrap64;omega
 have e2:wrap64 (k+(b.toNat:Int))=k+(b.toNat:Int):=by unfold wrap64;omega
 exact⟨(k+(b.toNat:Int)).toNat,by omega,by rw[e1,e2];omega⟩
theorem small_0(b:UInt8):∃ r:Nat,r<=1000/\wrap64 (b.toNat:Int)=(r:Int):=by
 have hb:=b.toNat_lt
 have e1:wrap64 (b.toNat:Int)=(b.toNat:Int):=by unfold wrap64;omega
 exact⟨b.toNat,by omega,e1⟩
theorem small_00(b:UInt8):∃ r:Nat,r<=1000/\wrap64 (wrap64 (b.toNat:Int))=(r:Int):=by
 obtain⟨r,h1,h2⟩:=small_0 b
 exact⟨r,h1,by rw[h2];unfold wrap64;omega⟩
theorem small_mk{x:Int}{w:World}(h:∃ r:Nat,r<=1000/\x=(r:Int)):SmallInt w (.returned (.int .i64 x)) w:=by
 obtain⟨r,h1,rfl⟩:=h
 exact⟨r,h1,rfl,rfl⟩
theorem Len64_any(x:Int)(w:World)(h0:0<=x)(h1:x<=1000000000):Calls Tryz.prog 184 #[.int .u64 x] w (SmallInt w):=by
 have hsz:Lib.len8tab.size=256:=by kernel_rfl
 go_enter Tryz.func184,Tryz.ntmps184
 go_wp2
 all_goals
  go_ret
  refine small_mk ?_
  first|exact small_w _ (by omega) (by omega)|exact small_0 _|exact small_00 _
theorem Len_any(x:Int)(w:World)(h0:0<=x)(h1:x<=1000000000):Calls Tryz.prog 392 #[.int .u64 x] w (SmallInt w):=by
 go_enter Tryz.func392,Tryz.ntmps392
 go_wp2_with(first|(go_at_call 184;refine (Len64_any _ _ h0 h1).mono ?_;rintro e w' ⟨r,h2,rfl,rfl⟩)|fail)
 go_ret
 exact⟨r,h2,rfl,rfl⟩
theorem ins_none(w:World):Calls Tryz.prog 395 #[.slice none 0 0,.int .i64 0,.int .i64 0] w fun e w'=>e = .returned (.tuple #[])/\w=w':=by
 go_enter Tryz.func395,Tryz.ntmps395
 go_wp2
 go_loop [6] (fun i=>i = .int .i64 1) (fun _=>0)
 case atStart=>rfl
 case round =>
  obtain rfl:=hrel
  go_wp2
  go_end0
  exact⟨rfl,rfl⟩
theorem pdq_none(r:Nat)(w:World):Calls Tryz.prog 391 #[.slice none 0 0,.int .i64 0,.int .i64 0,.int .i64 r] w fun e w'=>e = .returned (.tuple #[])/\w=w':=by
 go_enter Tryz.func391,Tryz.ntmps391
 go_wp2
 go_loop [1,2] (fun a b=>a = .int .i64 0/\b = .int .i64 0) (fun _ _=>0)
 case atStart=>exact⟨rfl,rfl⟩
 case round =>
  obtain⟨rfl,rfl⟩:=hrel
  go_wp2_with(first|(go_at_call 395;refine (ins_none _).mono ?_;rintro e w' ⟨rfl,rfl⟩)|fail)
  exact bodyPost_ret (results_none rfl _ _ _) rfl ⟨rfl,rfl⟩
theorem Sort_none(w:World):Calls Tryz.prog 382 #[.slice none 0 0] w fun e w'=>e = .returned (.tuple #[])/\w=w':=by
 go_enter Tryz.func382,Tryz.ntmps382
 go_wp2_with(first
  | (go_at_call 392;refine (Len_any _ _ (by omega) (by omega)).mono ?_;rintro e w' ⟨r,h2,rfl,rfl⟩)
  | (go_at_call 391;refine (pdq_none _ _).mono ?_;rintro e w' ⟨rfl,rfl⟩)
  | fail)
 go_end0
 exact⟨rfl,rfl⟩
theorem Compact_none(w:World):Calls Tryz.prog 383 #[.slice none 0 0] w fun e w'=>e = .returned (.slice none 0 0)/\w=w':=by
 go_enter Tryz.func383,Tryz.ntmps383
 go_wp2
 go_ret
 exact⟨rfl,rfl⟩
end Go.Proofs.YtkibdkfdffkkfaaGreatDoor.Pn
