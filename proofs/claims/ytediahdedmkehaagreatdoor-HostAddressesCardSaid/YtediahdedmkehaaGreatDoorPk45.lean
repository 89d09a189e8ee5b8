import Derived.Test.YtediahdedmkehaaGreatDoorPk43
import Derived.Test.YtediahdedmkehaaGreatDoorPk44
set_option maxRecDepth 100000
set_option maxHeartbeats 8000000
namespace Go.Proofs.YtediahdedmkehaaGreatDoor.Hst
open Go.RowKit Utf Remap Norm Pn Puny
structure Ho where
 k:Nat
 s:List UInt8
 f:Nat
 x:List Nat
 deriving DecidableEq
def hcl (k:Nat) (s:ByteArray) (f:Nat) (x:List Nat):List Value:=.int .u8 (k:Int) :: .string s :: .int .u32 (f:Int)::Sx.cu x
abbrev Ho.cs (h:Ho):List Value:=hcl h.k (Fou.bs h.s) h.f h.x
abbrev Ho.v (h:Ho):Value:=.agg h.cs.toArray
theorem cs_len(h:Ho):h.cs.length=h.x.length+3:=by simp[Ho.cs,hcl,Sx.cu]
theorem cs_one(h:Ho):∀ v∈h.cs,v.oneCell'=true:=by
 intro v hv
 simp only[Ho.cs,hcl,List.mem_cons]at hv
 rcases hv with rfl|rfl|rfl|hv
 ·rfl
 ·rfl
 ·rfl
 ·exact Sx.one_cu _ v hv
def HBk (w:World) (B:Nat) (T:TypeId) (h:Ho):Prop:=w.heap[B]? = some (.cells h.cs.toArray T (0,0))
theorem HBk.new(w:World)(T:TypeId)(h:Ho):HBk (w.alloc (.cells h.cs.toArray T)) w.heap.size T h:=World.alloc_heap_new w _
theorem HBk.lt{w:World}{B:Nat}{T:TypeId}{h:Ho}(hb:HBk w B T h):B<w.heap.size:=(Array.getElem?_eq_some_iff.1 hb).1
theorem HBk.go{a b:World}{B:Nat}{T:TypeId}{h:Ho}(hb:HBk a B T h)(hB:Below a.heap.size a b):HBk b B T h:=(hB.block _ hb.lt).trans hb
theorem HBk.gom{a b:World}{B m:Nat}{T:TypeId}{h:Ho}(hb:HBk a B T h)(hm:B<m)(hB:Below m a b):HBk b B T h:=(hB.block _ hm).trans hb
theorem HBk.cell{w:World}{B:Nat}{T:TypeId}{h:Ho}(hb:HBk w B T h){k:Nat}{v:Value}(hv:h.cs[k]? = some v):w.cell? ⟨B,k,none⟩=some v:=by
 rw[cell_of_row w B k _ _ _ hb,List.getElem?_toArray,hv]
theorem HBk.frozen{w:World}{B:Nat}{T:TypeId}{h:Ho}(hb:HBk w B T h)(k:Nat):w.frozen? ⟨B,k,none⟩=false:=by
 unfold HBk at hb
 simp[World.frozen?,hb]
theorem HBk.range{w:World}{B:Nat}{T:TypeId}{h:Ho}(hb:HBk w B T h):w.rangeAt B 0 h.cs:=fun j v hv=>by
 rw[Nat.zero_add]
 exact hb.cell hv
theorem HBk.range3{w:World}{B:Nat}{T:TypeId}{h:Ho}(hb:HBk w B T h):w.rangeAt B 3 (Sx.cu h.x):=fun j v hv=>by
 refine hb.cell ?_
 rw[show 3+j=j+1+1+1 by omega]
 exact hv
theorem HBk.there{w:World}{B:Nat}{T:TypeId}{h g:Ho}(hb:HBk w B T h)(hl:g.x.length=h.x.length):w.there B 0 g.cs.toArray.size:=fun j hj=>by
 rw[List.size_toArray,cs_len,hl,<-cs_len h]at hj
 rw[Nat.zero_add]
 exact⟨by rw[hb.cell (List.getElem?_eq_getElem hj)];rfl,hb.frozen j⟩
theorem set_cells(b:Nat)(T:TypeId):∀ (vs:List Value) (pre:List Value) (w:World) (rest:List Value),w.heap[b]? = some (.cells (pre++rest).toArray T (0,0))->rest.length=vs.length->(w.setCells b pre.length vs).heap[b]? = some (.cells (pre++vs).toArray T (0,0)):=by
 intro vs
 induction vs with
 | nil =>
  intro pre w rest h hl
  obtain rfl:rest=[]:=List.eq_nil_of_length_eq_zero hl
  exact h
 | cons u vs ih =>
  intro pre w rest h hl
  obtain⟨r,rest,rfl⟩:∃ r t,rest=r::t:=by
   cases rest with
   | nil=>simp at hl
   | cons r t=>exact⟨r,t,rfl⟩
  rw[World.setCells]
  have h2:(w.setCell ⟨b,pre.length,none⟩ u).heap[b]? = some (.cells ((pre++[u])++rest).toArray T (0,0)):=by
   simp only[World.setCell,Array.getElem?_modify,if_true,h,Option.map_some]
   congr 2
   simp
  have:=ih (pre++[u]) _ rest h2 (by simpa using hl)
  rw[List.length_append,List.length_singleton,List.append_assoc]at this
  exact this
theorem HBk.set{w:World}{B:Nat}{T:TypeId}{h:Ho}(hb:HBk w B T h)(g:Ho)(hl:g.x.length=h.x.length):HBk (w.setCells B 0 g.cs) B T g :=
 set_cells B T g.cs [] w h.cs hb (by rw[cs_len,cs_len,hl])
theorem infoH:(Tryz.prog.info? 27).map (·.size)=some 11:=by kernel_rfl
theorem infoV:(Tryz.prog.info? 65).map (·.size)=some 11:=by kernel_rfl
theorem storeH{ops:Array Oper}{rest:List Oper}{op:Oper}{a:Act}{w:World}{Q:Exit->Act->World->Prop}(hgd:op.guard=none)(x y:Operand)(ho:op.op = .store 27 x y)
  (b:Nat) (T:TypeId) (z v:Ho) (hx:a.eval x = .pointer (some ⟨b,0,none⟩)) (hy:a.eval y=v.v) (hz:HBk w b T z) (hz8:z.x.length=8) (hv8:v.x.length=8)
  (h:∀ w',HBk w' b T v->Below b w w'->wpList Tryz.prog ops Q rest (a.put op.dst undef) w'):wpList Tryz.prog ops Q (op::rest) a w:=by
 refine wpList_store_mid hgd 27 x y ho b 0 v.cs.toArray hx hy (hz.there (by omega)) ?_ (all_oneCell_toArray (cs_one v)) ?_
 ·rw[List.size_toArray,cs_len,hv8]
  exact infoH
 ·exact h _ (hz.set v (by omega)) (Sx.below_setCells (Nat.le_refl _) _ _ _ (Below.refl _ _))
theorem loadH{ops:Array Oper}{rest:List Oper}{op:Oper}{a:Act}{w:World}{Q:Exit->Act->World->Prop}(p:Operand)(ho:op.op = .load 27 p)
  (b:Nat) (T:TypeId) (hx:a.eval p = .pointer (some ⟨b,0,none⟩)) (v:Ho) (hc:HBk w b T v) (hL:v.x.length=8) (hgd:Region.wanted op (yielded ops a.tmps)=true)
  (h:wpList Tryz.prog ops Q rest (a.put op.dst v.v) w):wpList Tryz.prog ops Q (op::rest) a w :=
 Sx.wpList_load_g 27 p ho b 0 hx v.cs _ hc.range Tryz.underlying27 rfl (by rw[cs_len,hL];exact infoH) hgd h
theorem loadV{ops:Array Oper}{rest:List Oper}{op:Oper}{a:Act}{w:World}{Q:Exit->Act->World->Prop}(p:Operand)(ho:op.op = .load 65 p)
  (b:Nat) (T:TypeId) (hx:a.eval p = .pointer (some ⟨b,0,none⟩)) (v:Ho) (hc:HBk w b T v) (hL:v.x.length=8) (hgd:Region.wanted op (yielded ops a.tmps)=true)
  (h:wpList Tryz.prog ops Q rest (a.put op.dst v.v) w):wpList Tryz.prog ops Q (op::rest) a w :=
 Sx.wpList_load_g 65 p ho b 0 hx v.cs _ hc.range Tryz.underlying65 rfl (by rw[cs_len,hL];exact infoV) hgd h
theorem load_var{w:World}{B:Nat}{T:TypeId}{v:Ho}(hb:HBk w B T v)(h8:v.x.length=8):(loadVar 27 ⟨B,0,none⟩).run Tryz.prog w = .ok v.v w :=
 run_loadVar_mid _ B 0 27 v.cs _ hb.range Tryz.underlying27 rfl (by rw[cs_len,h8];exact infoH)
theorem equal8d(x y:List Nat)(hL:x.length=8)(hM:y.length=8)(w:World):(Op.equalIn 9999 25 (Sx.av x) (Sx.av y)).run Tryz.prog w = .ok (decide (x=y)) w:=by
 obtain⟨i,hi⟩:∃ i,Tryz.prog.info? 24=some i:=Option.isSome_iff_exists.1 (by kernel_rfl)
 have e:=run_equalIn_array w 9998 (Sx.cu x).toArray (Sx.cu y).toArray Tryz.underlying25 hi
 rw[show Tryz.prog.cellsOf 24=1 by kernel_rfl,Sx.items_eq x y w 9997 (List.range 8) (fun i hi=>by have:=List.mem_range.1 hi;omega)]at e
 have h:=Sx.all_range x y (by omega)
 rw[hL]at h
 rw[h]at e
 exact e
theorem equalH(a b:Ho)(ha:a.x.length=8)(hb:b.x.length=8)(w:World):(Op.equalIn 10000 27 a.v b.v).run Tryz.prog w = .ok (decide (a=b)) w:=by
 obtain⟨k,s,f,x⟩:=a
 obtain⟨k',s',f',y⟩:=b
 dsimp only at ha hb
 have h8:=equal8d x y ha hb w
 obtain⟨x0,x1,x2,x3,x4,x5,x6,x7,rfl⟩:=Sx.eight ha
 obtain⟨y0,y1,y2,y3,y4,y5,y6,y7,rfl⟩:=Sx.eight hb
 have hp:∀ (k:Nat) (s:ByteArray) (f x0 x1 x2 x3 x4 x5 x6 x7:Nat),(part 5 (hcl k s f [x0,x1,x2,x3,x4,x5,x6,x7]).toArray 0).run Tryz.prog w = .ok (.int .u8 (k:Int)) w /\
   (part 9 (hcl k s f [x0,x1,x2,x3,x4,x5,x6,x7]).toArray 1).run Tryz.prog w = .ok (.string s) w /\
   (part 23 (hcl k s f [x0,x1,x2,x3,x4,x5,x6,x7]).toArray 2).run Tryz.prog w = .ok (.int .u32 (f:Int)) w /\
   (part 25 (hcl k s f [x0,x1,x2,x3,x4,x5,x6,x7]).toArray 3).run Tryz.prog w = .ok (Sx.av [x0,x1,x2,x3,x4,x5,x6,x7]) w:=fun k s f x0 x1 x2 x3 x4 x5 x6 x7=>⟨by kernel_rfl,by kernel_rfl,by kernel_rfl,by kernel_rfl⟩
 obtain⟨p0,p1,p2,p3⟩:=hp k (Fou.bs s) f x0 x1 x2 x3 x4 x5 x6 x7
 obtain⟨q0,q1,q2,q3⟩:=hp k' (Fou.bs s') f' y0 y1 y2 y3 y4 y5 y6 y7
 rw[run_equalIn_struct w 9999 27 _ _ (by simp[Program.fieldsOf,Tryz.underlying27]) (by kernel_rfl)]
 simp only[Program.fieldsOf,Tryz.underlying27]
 have hs:((Fou.bs s).toList==(Fou.bs s').toList)=decide (s=s'):=by
  rw[ByteArray.toList_eq,ByteArray.toList_eq]
  simp[Fou.bs]
  by_cases e:s=s'<;>simp[e]
 have i0:(Op.equalIn 9999 5 (.int .u8 (k:Int)) (.int .u8 (k':Int))).run Tryz.prog w = .ok (decide (k=k')) w:=by
  rw[run_equalIn_int w 9998 5 .u8 .u8 _ _ Tryz.underlying5]
  congr 1
  by_cases e:k=k'<;>simp[e]
  omega
 have i1:(Op.equalIn 9999 9 (.string (Fou.bs s)) (.string (Fou.bs s'))).run Tryz.prog w = .ok (decide (s=s')) w:=by
  rw[run_equalIn_string w 9998 9 _ _ Tryz.underlying9,hs]
 have i2:(Op.equalIn 9999 23 (.int .u32 (f:Int)) (.int .u32 (f':Int))).run Tryz.prog w = .ok (decide (f=f')) w:=by
  rw[run_equalIn_int w 9998 23 .u32 .u32 _ _ Tryz.underlying23]
  congr 1
  by_cases e:f=f'<;>simp[e]
  omega
 dsimp only[Ho.cs]
 generalize hcl k (Fou.bs s) f [x0,x1,x2,x3,x4,x5,x6,x7]=X at p0 p1 p2 p3 ⊢
 generalize hcl k' (Fou.bs s') f' [y0,y1,y2,y3,y4,y5,y6,y7]=Y at q0 q1 q2 q3 ⊢
 generalize [x0,x1,x2,x3,x4,x5,x6,x7]=x at h8 p3 ⊢
 generalize [y0,y1,y2,y3,y4,y5,y6,y7]=y at h8 q3 ⊢
 simp[Op.eqFields,Sem.run_bind,p0,q0,p1,q1,p2,q2,p3,q3,i0,i1,i2,h8]
 by_cases e0:k=k'
 ·by_cases e1:s=s'
  ·by_cases e2:f=f'
   ·by_cases e3:x=y<;>simp[e0,e1,e2,e3]
   ·simp[e0,e1,e2]
  ·simp[e0,e1]
 ·simp[e0]
def hN:Ho:=⟨0,[],0,Sx.z8⟩
def brH:Option (List Nat)->Int ⊕ Ho
 | none => .inl 31
 | some x => .inr ⟨4,[],0,x⟩
def nmH:Int ⊕ (List UInt8 ⊕ Nat)->Int ⊕ Ho
 | .inl e => .inl e
 | .inr (.inl t) => .inr ⟨2,t,0,Sx.z8⟩
 | .inr (.inr x) => .inr ⟨3,[],x,Sx.z8⟩
def opH (l:List Int):Int ⊕ Ho:=if l.any forb=true then .inl 32 else .inr ⟨5,dl (strOfNums (penc l)),0,Sx.z8⟩
def hP (l:List Int) (sp:Bool):Int ⊕ Ho :=
 if l≠[]/\l[0]! = 91 then brH (brv l) else if sp=true then nmH (nmd l) else if l=[] then .inr ⟨1,[],0,Sx.z8⟩ else opH l
def HoV:Int ⊕ Ho->Value
 | .inl x => .tuple #[hN.v,.int .i64 x]
 | .inr h => .tuple #[h.v,.int .i64 0]
def HoR (v:Int ⊕ Ho) (w:World) (e:Ending) (w':World):Prop:=e = .returned (HoV v)/\Below w.heap.size w w'
theorem brv_len{l:List Int}{x:List Nat}(h:brv l=some x):x.length=8:=by
 unfold brv at h
 split at h
 ·exact (Sx.prs_some h).1
 ·cases h
theorem brH_len{l:List Int}{h:Ho}(e:brH (brv l) = .inr h):h.x.length=8:=by
 cases hb:brv l with
 | none=>rw[hb]at e;cases e
 | some x=>rw[hb]at e;cases e;exact brv_len hb
theorem nmH_len{v:Int ⊕ (List UInt8 ⊕ Nat)}{h:Ho}(e:nmH v = .inr h):h.x.length=8:=by
 rcases v with v|v|v<;>cases e<;>rfl
theorem opH_len{l:List Int}{h:Ho}(e:opH l = .inr h):h.x.length=8:=by
 unfold opH at e
 split at e
 ·cases e
 ·cases e;rfl
theorem hP_len{l:List Int}{sp:Bool}{h:Ho}(e:hP l sp = .inr h):h.x.length=8:=by
 unfold hP at e
 split at e
 ·exact brH_len e
 ·split at e
  ·exact nmH_len e
  ·split at e
   ·cases e;rfl
   ·exact opH_len e
theorem brack_ho(l:List Int)(A:Option Addr)(n c:Nat)(w:World)(hn:l.length=n)(h0:l[0]! = 91)(h1:1<=n)(hl:n<=1000)(hc:n<=c)(hr:Row w w.heap.size A (cl .i32 l))(hE:Sx.Env w):Calls Tryz.prog 27 #[.slice A n c] w (HoR (brH (brv l)) w) :=
 (bracketed_any l A n c w hn h0 h1 hl hc hr hE).mono fun e w' h=>by
  unfold BrR at h
  cases hb:brv l with
  | none=>rw[hb]at h;exact⟨h.1,h.2⟩
  | some x =>
   obtain⟨x0,x1,x2,x3,x4,x5,x6,x7,rfl⟩:=Sx.eight (brv_len hb)
   rw[hb]at h
   exact⟨h.1,h.2⟩
theorem named_ho(l:List Int)(A:Option Addr)(n c:Nat)(w:World)(hn:l.length=n)(hl:n<=5000)(hd2:(dcd l).length<=2000)(hF:Fits (dcd l))(hr:Row w w.heap.size A (cl .i32 l)):Calls Tryz.prog 28 #[.slice A n c] w (HoR (nmH (nmd l)) w) :=
 (named_any l A n c w hn hl hd2 hF hr).mono fun e w' h=>by
  unfold NmR at h
  rcases hv:nmd l with x|t|x
  ·rw[hv]at h;exact⟨h.1,h.2⟩
  ·rw[hv]at h;exact⟨h.1,h.2⟩
  ·rw[hv]at h;exact⟨h.1,h.2⟩
theorem opaque_ho(l:List Int)(A:Option Addr)(n c:Nat)(w:World)(hn:l.length=n)(hl:n<=1000)(hr:Row w w.heap.size A (cl .i32 l)):Calls Tryz.prog 29 #[.slice A n c] w (HoR (opH l) w) :=
 (opaque_any l A n c w hn hl hr).mono fun e w' h=>by
  unfold OpR at h
  unfold opH
  by_cases hf:l.any forb=true
  ·rw[if_pos hf]at h ⊢;exact⟨h.1,h.2⟩
  ·rw[if_neg hf]at h ⊢
   refine⟨h.1.trans ?_,h.2⟩
   show _=Ending.returned (.tuple #[(⟨5,dl (strOfNums (penc l)),0,Sx.z8⟩:Ho).v,.int .i64 0])
   have e:Fou.bs (dl (strOfNums (penc l)))=strOfNums (penc l):=(Fou.bs_eq rfl).symm
   unfold Ho.v Ho.cs
   dsimp only
   rw[e]
   rfl
theorem hoR_mk{v v':Int ⊕ Ho}{w w':World}(h:v=v')(hB:Below w.heap.size w w'):HoR v w (.returned (HoV v')) w':=by subst h;exact⟨rfl,hB⟩
theorem hoV_split(v:Int ⊕ Ho)(hl:∀ h,v = .inr h->h.x.length=8):∃ (h:Ho) (x:Int),HoV v = .tuple #[h.v,.int .i64 x]/\h.x.length=8:=by
 cases v with
 | inl x=>exact⟨hN,x,rfl,rfl⟩
 | inr h=>exact⟨h,0,rfl,hl h rfl⟩
theorem HParse_any(l:List Int)(sp:Bool)(A:Option Addr)(n c:Nat)(w:World)(hn:l.length=n)(hl:n<=5000)(hc:n<=c)(hbr:l[0]! = 91->n<=1000)(hnp:sp=false->n<=1000)(hF:sp=true->(dcd l).length<=2000/\Fits (dcd l))(hE:Sx.Env w)(hr:Row w w.heap.size A (cl .i32 l)):Calls Tryz.prog 9 #[.slice A n c,.bool sp] w (HoR (hP l sp) w):=by
 have hB0:=upA w (.cells hN.cs.toArray 27)
 have hr1:=(hr.below hB0).mono hB0.size
 have hE1:=hE.go hB0
 have hX:=HBk.new w 27 hN
 obtain⟨w1,hw1⟩:∃ w1,w.alloc (.cells hN.cs.toArray 27)=w1:=⟨_,rfl⟩
 rw[hw1]at hB0 hr1 hE1 hX
 have hw2:w.alloc (.cells #[.int .u8 0,.string ⟨#[]⟩,.int .u32 0,.int .u16 0,.int .u16 0,.int .u16 0,.int .u16 0,.int .u16 0,.int .u16 0,.int .u16 0,.int .u16 0] 27)=w1:=hw1
 have HB0:=Lib.hid hB0
 have HX:=Lib.hid hX
 have hlt:w.heap.size<w1.heap.size:=hX.lt
 clear hw1 hX
 by_cases hb:l≠[]/\l[0]! = 91
 ·have h1:1<=n:=by
   rcases Nat.eq_zero_or_pos n with h|h
   ·exact absurd (List.eq_nil_of_length_eq_zero (by omega)) hb.1
   ·exact h
  have HV:Hid (hP l sp=brH (brv l)):=Lib.hid (by unfold hP;rw[if_pos hb])
  have HC:=Lib.hid (brack_ho l A n c w1 hn hb.2 h1 (hbr hb.2) hc hr1 hE1)
  obtain⟨b,o,rfl,hbb,hcc⟩:=hr1.at_ (by simp[hn];omega)
  have c0:=cell_at hcc (k:=0) (by omega)
  rw[hb.2,Nat.add_zero]at c0
  have h1z:(0:Int)<(n:Int):=by omega
  have h1d:decide ((0:Int)<(n:Int))=true:=decide_eq_true h1z
  obtain⟨v,hv⟩:∃ v,brH (brv l)=v:=⟨_,rfl⟩
  obtain⟨h,x,hvv,h8⟩:=hoV_split v (fun h e=>brH_len (hv.trans e))
  rw[hv]at HC HV
  unfold HoR at HC
  rw[hvv]at HC
  have HVV:=Lib.hid hvv
  have H8:=Lib.hid h8
  clear hcc hr hr1 hn hb hE hE1 hv hvv h8 hB0 hF hbr hnp
  go_enter Tryz.func9,Tryz.ntmps9
  go_upto_region 1 with fail
  clear hw2
  go_upto_region 2 with fail
  go_wp2_with(first|(go_at_call 27;refine HC.out.mono ?_;rintro e w2 ⟨rfl,hB2⟩)|(refine storeH rfl _ _ rfl _ 27 hN h rfl rfl (HX.out.gom hlt hB2) rfl H8.out ?_;intro w3 hX3 hB3)|fail)
  refine bodyPost_ret (v:=.tuple #[h.v,.int .i64 x]) (Sx.results_two (u:=5) Tryz.results9 rfl (load_var hX3 H8.out) rfl) rfl ?_
  rw[<-HVV.out]
  exact hoR_mk HV.out ((HB0.out.trans (hB2.mono HB0.out.size)).trans hB3)
 ·have HNO:Hid (hP l sp=if sp=true then nmH (nmd l) else if l=[] then .inr ⟨1,[],0,Sx.z8⟩ else opH l):=Lib.hid (by unfold hP;rw[if_neg hb])
  by_cases h0:n=0
  ·obtain rfl:l=[]:=List.eq_nil_of_length_eq_zero (by omega)
   subst h0
   cases sp with
   | true =>
    have HV:Hid (hP [] true=nmH (nmd [])):=Lib.hid (by rw[HNO.out,if_pos rfl])
    have HC:=Lib.hid (named_ho [] A 0 c w1 rfl (by omega) (hF rfl).1 (hF rfl).2 hr1)
    obtain⟨v,hv⟩:∃ v,nmH (nmd [])=v:=⟨_,rfl⟩
    obtain⟨h,x,hvv,h8⟩:=hoV_split v (fun h e=>nmH_len (hv.trans e))
    rw[hv]at HC HV
    unfold HoR at HC
    rw[hvv]at HC
    have HVV:=Lib.hid hvv
    have H8:=Lib.hid h8
    clear hv hvv h8
    clear hr hr1 hn hb hE hE1 hB0 hF hbr hnp
    go_enter Tryz.func9,Tryz.ntmps9
    go_upto_region 1 with fail
    clear hw2
    go_upto_region 4 with fail
    go_wp2_with(first|(go_at_call 28;refine HC.out.mono ?_;rintro e w2 ⟨rfl,hB2⟩)|(refine storeH rfl _ _ rfl _ 27 hN h rfl rfl (HX.out.gom hlt hB2) rfl H8.out ?_;intro w3 hX3 hB3)|fail)
    refine bodyPost_ret (v:=.tuple #[h.v,.int .i64 x]) (Sx.results_two (u:=5) Tryz.results9 rfl (load_var hX3 H8.out) rfl) rfl ?_
    rw[<-HVV.out]
    exact hoR_mk HV.out ((HB0.out.trans (hB2.mono HB0.out.size)).trans hB3)
   | false =>
    have HV:Hid (hP [] false = .inr ⟨1,[],0,Sx.z8⟩):=Lib.hid (by rw[HNO.out,if_neg (by decide),if_pos rfl])
    clear hr hr1 hn hb hE hE1 hB0 hF hbr hnp
    go_enter Tryz.func9,Tryz.ntmps9
    go_upto_region 1 with fail
    clear hw2
    go_upto_region 6 with fail
    go_wp2_with(first|(refine storeH rfl _ _ rfl _ 27 hN ⟨1,[],0,Sx.z8⟩ rfl rfl HX.out rfl rfl ?_;intro w3 hX3 hB3)|fail)
    refine bodyPost_ret (v:=.tuple #[(⟨1,[],0,Sx.z8⟩:Ho).v,.int .i64 0]) (Sx.results_two (u:=5) Tryz.results9 rfl (load_var hX3 rfl) rfl) rfl ?_
    exact hoR_mk (v':=.inr ⟨1,[],0,Sx.z8⟩) HV.out (HB0.out.trans hB3)
  ·have hne:l≠[]:=fun e=>h0 (by rw[<-hn,e];rfl)
   have hny:l[0]!≠91:=fun e=>hb ⟨hne,e⟩
   have h1z:(0:Int)<(n:Int):=by omega
   have h1d:decide ((0:Int)<(n:Int))=true:=decide_eq_true h1z
   have hnz:¬ (n:Int)=0:=by omega
   have hnb:((n:Int)==0)=false:=by simpa using hnz
   have HOP:Hid (sp=false->Calls Tryz.prog 29 #[.slice A n c] w1 (HoR (opH l) w1)):=Lib.hid (fun e=>opaque_ho l A n c w1 hn (hnp e) hr1)
   have HNM:Hid (sp=true->Calls Tryz.prog 28 #[.slice A n c] w1 (HoR (nmH (nmd l)) w1)):=Lib.hid (fun e=>named_ho l A n c w1 hn hl (hF e).1 (hF e).2 hr1)
   obtain⟨b,o,rfl,hbb,hcc⟩:=hr1.at_ (by simp[hn];omega)
   have c0:=cell_at hcc (k:=0) (by omega)
   rw[Nat.add_zero]at c0
   obtain⟨y,hy⟩:∃ y,l[0]! = y:=⟨_,rfl⟩
   rw[hy]at c0 hny
   have hyb:(y==91)=false:=by simpa using hny
   cases sp with
   | true =>
    have HV:Hid (hP l true=nmH (nmd l)):=Lib.hid (by rw[HNO.out,if_pos rfl])
    have HC:=Lib.hid (HNM.out rfl)
    obtain⟨v,hv⟩:∃ v,nmH (nmd l)=v:=⟨_,rfl⟩
    obtain⟨h,x,hvv,h8⟩:=hoV_split v (fun h e=>nmH_len (hv.trans e))
    rw[hv]at HC HV
    unfold HoR at HC
    rw[hvv]at HC
    have HVV:=Lib.hid hvv
    have H8:=Lib.hid h8
    clear hv hvv h8
    clear hcc hr hr1 hn hb hE hE1 hB0 hF hbr hnp hy hne HOP HNM
    go_enter Tryz.func9,Tryz.ntmps9
    go_upto_region 1 with fail
    clear hw2
    go_upto_region 4 with fail
    go_wp2_with(first|(go_at_call 28;refine HC.out.mono ?_;rintro e w2 ⟨rfl,hB2⟩)|(refine storeH rfl _ _ rfl _ 27 hN h rfl rfl (HX.out.gom hlt hB2) rfl H8.out ?_;intro w3 hX3 hB3)|fail)
    refine bodyPost_ret (v:=.tuple #[h.v,.int .i64 x]) (Sx.results_two (u:=5) Tryz.results9 rfl (load_var hX3 H8.out) rfl) rfl ?_
    rw[<-HVV.out]
    exact hoR_mk HV.out ((HB0.out.trans (hB2.mono HB0.out.size)).trans hB3)
   | false =>
    have HV:Hid (hP l false=opH l):=Lib.hid (by rw[HNO.out,if_neg (by decide),if_neg hne])
    have HC:=Lib.hid (HOP.out rfl)
    obtain⟨v,hv⟩:∃ v,opH l=v:=⟨_,rfl⟩
    obtain⟨h,x,hvv,h8⟩:=hoV_split v (fun h e=>opH_len (hv.trans e))
    rw[hv]at HC HV
    unfold HoR at HC
    rw[hvv]at HC
    have HVV:=Lib.hid hvv
    have H8:=Lib.hid h8
    clear hv hvv h8
    clear hcc hr hr1 hn hb hE hE1 hB0 hF hbr hnp hy hne HOP HNM
    go_enter Tryz.func9,Tryz.ntmps9
    go_upto_region 1 with fail
    clear hw2
    go_upto_region 7 with fail
    go_wp2_with(first|(go_at_call 29;refine HC.out.mono ?_;rintro e w2 ⟨rfl,hB2⟩)|(refine storeH rfl _ _ rfl _ 27 hN h rfl rfl (HX.out.gom hlt hB2) rfl H8.out ?_;intro w3 hX3 hB3)|fail)
    refine bodyPost_ret (v:=.tuple #[h.v,.int .i64 x]) (Sx.results_two (u:=5) Tryz.results9 rfl (load_var hX3 H8.out) rfl) rfl ?_
    rw[<-HVV.out]
    exact hoR_mk HV.out ((HB0.out.trans (hB2.mono HB0.out.size)).trans hB3)
def Gvs (l:List UInt8) (w:World) (e:Ending) (w':World):Prop:=e = .returned (.string (Fou.bs l))/\Below w.heap.size w w'
theorem nothing_any(h:Ho)(h8:h.x.length=8)(w:World):Calls Tryz.prog 92 #[h.v] w (Gvs [] w):=by
 obtain⟨k,s,f,x⟩:=h
 obtain⟨x0,x1,x2,x3,x4,x5,x6,x7,rfl⟩:=Sx.eight h8
 go_enter Tryz.func92,Tryz.ntmps92
 go_wp2_with fail
 go_ret
 exact⟨rfl,upA _ _⟩
theorem name_any(h:Ho)(h8:h.x.length=8)(w:World):Calls Tryz.prog 93 #[h.v] w (Gvs h.s w):=by
 obtain⟨k,s,f,x⟩:=h
 obtain⟨x0,x1,x2,x3,x4,x5,x6,x7,rfl⟩:=Sx.eight h8
 show Calls Tryz.prog 93 #[.agg #[.int .u8 (k:Int),.string (Fou.bs s),.int .u32 (f:Int),.int .u16 (x0:Int),.int .u16 (x1:Int),.int .u16 (x2:Int),.int .u16 (x3:Int),.int .u16 (x4:Int),.int .u16 (x5:Int),.int .u16 (x6:Int),.int .u16 (x7:Int)]] w (Gvs s w)
 go_enter Tryz.func93,Tryz.ntmps93
 go_wp2_with fail
 go_ret
 exact⟨rfl,upA _ _⟩
theorem vfour_any(h:Ho)(h8:h.x.length=8)(hf:h.f<4294967296)(w:World)(hp:Fou.PowIs w):Calls Tryz.prog 94 #[h.v] w (Gvs (Fou.shw h.f) w):=by
 obtain⟨k,s,f,x⟩:=h
 obtain⟨x0,x1,x2,x3,x4,x5,x6,x7,rfl⟩:=Sx.eight h8
 dsimp only at hf ⊢
 have hB0:=upA w (.cells (hcl k (Fou.bs s) f [x0,x1,x2,x3,x4,x5,x6,x7]).toArray 65)
 have HS:=Lib.hid (Fou.Show_any f hf _ (Fou.tab_go hp hB0))
 obtain⟨t,ht⟩:∃ t,Fou.shw f=t:=⟨_,rfl⟩
 rw[ht]at HS ⊢
 unfold Fou.Texts at HS
 have HB0:=Lib.hid hB0
 clear ht hp hB0
 show Calls Tryz.prog 94 #[.agg #[.int .u8 (k:Int),.string (Fou.bs s),.int .u32 (f:Int),.int .u16 (x0:Int),.int .u16 (x1:Int),.int .u16 (x2:Int),.int .u16 (x3:Int),.int .u16 (x4:Int),.int .u16 (x5:Int),.int .u16 (x6:Int),.int .u16 (x7:Int)]] w (Gvs t w)
 go_enter Tryz.func94,Tryz.ntmps94
 go_wp2_with(first|(go_at_call 22;refine HS.out.mono ?_;rintro e w2 ⟨rfl,hB2⟩)|fail)
 go_ret
 exact⟨rfl,upB HB0.out hB2⟩
theorem six_shown(x:List Nat):∃ t,∃ k n,Sx.IsRun x k n/\t=Sx.shw x k n:=by
 obtain⟨k,n,h⟩:=Sx.IsRun.exists x
 exact⟨_,k,n,h,rfl⟩
noncomputable def sixS (x:List Nat):List UInt8:=(six_shown x).choose
theorem sixS_is{x:List Nat}{k n:Nat}(h:Sx.IsRun x k n):sixS x=Sx.shw x k n:=by
 obtain⟨k',n',h',e⟩:=(six_shown x).choose_spec
 unfold sixS
 rw[e]
 obtain⟨rfl,rfl⟩:=h.same h'
 rfl
theorem vsix_any(h:Ho)(h8:h.x.length=8)(h16:∀ m∈h.x,m<65536)(w:World)(hE:Sx.Env w):Calls Tryz.prog 95 #[h.v] w (Gvs ([91]++sixS h.x++[93]) w):=by
 obtain⟨k,s,f,x⟩:=h
 dsimp only at h8 h16 ⊢
 obtain⟨rk,rn,hr⟩:=Sx.IsRun.exists x
 rw[sixS_is hr]
 have hB0:=upA w (.cells (hcl k (Fou.bs s) f x).toArray 65)
 have hX:=HBk.new w 65 (⟨k,s,f,x⟩:Ho)
 have HS:=Lib.hid (Sx.Show_any x h8 h16 rk rn hr _ (hE.go hB0))
 have hlen:=(Sx.shw_len h8 h16 hr).2
 obtain⟨t,ht⟩:∃ t,Sx.shw x rk rn=t:=⟨_,rfl⟩
 rw[ht]at HS hlen ⊢
 unfold Sx.Texts at HS
 have HB0:=Lib.hid hB0
 have HX:=Lib.hid hX
 have H8:=Lib.hid h8
 have hsz:(Sx.bs t).size<=39:=by rw[Sx.bs_size];exact hlen
 obtain⟨S,hS⟩:∃ S,Sx.bs t=S:=⟨_,rfl⟩
 rw[hS]at HS hsz
 have HSS:=Lib.hid hS
 obtain⟨x0,x1,x2,x3,x4,x5,x6,x7,rfl⟩:=Sx.eight h8
 clear ht hE hB0 hX h8 h16 hr hlen hS
 show Calls Tryz.prog 95 #[.agg #[.int .u8 (k:Int),.string (Fou.bs s),.int .u32 (f:Int),.int .u16 (x0:Int),.int .u16 (x1:Int),.int .u16 (x2:Int),.int .u16 (x3:Int),.int .u16 (x4:Int),.int .u16 (x5:Int),.int .u16 (x6:Int),.int .u16 (x7:Int)]] w _
 go_enter Tryz.func95,Tryz.ntmps95
 go_wp2_with(first|(refine Sx.wpList_load_g 25 _ rfl _ 3 rfl _ _ HX.out.range3 Tryz.underlying25 rfl (Sx.info_of H8.out) rfl ?_)|(go_at_call 23;refine HS.out.mono ?_;rintro e w2 ⟨rfl,hB2⟩)|fail)
 go_ret
 refine⟨?_,upB HB0.out hB2⟩
 have e:((⟨#[91]⟩:ByteArray)++S++⟨#[93]⟩)=Fou.bs (91::(t++[93])):=Fou.bs_eq (by rw[<-HSS.out];simp[Sx.bs])
 exact ret_val (congrArg Value.string e)
def Okh (h:Ho):Prop:=h.k<256/\h.f<4294967296/\h.x.length=8/\∀ m∈h.x,m<65536
noncomputable def hS8 (h:Ho):List UInt8:=if h.k=2 then h.s else if h.k=3 then Fou.shw h.f else if h.k=4 then [91]++sixS h.x++[93] else if h.k=5 then h.s else []
theorem text_any(h:Ho)(ho:Okh h)(w:World)(hE:Sx.Env w)(hp:Fou.PowIs w):Calls Tryz.prog 41 #[h.v] w (Gvs (hS8 h) w):=by
 obtain⟨hk,hf,h8,h16⟩:=ho
 have hB0:=upA w (.cells h.cs.toArray 65)
 have hX:=HBk.new w 65 h
 obtain⟨w1,hw1⟩:∃ w1,w.alloc (.cells h.cs.toArray 65)=w1:=⟨_,rfl⟩
 rw[hw1]at hB0 hX
 have HB0:=Lib.hid hB0
 have HX:=Lib.hid hX
 have hlt:=hX.lt
 have ck:=hX.cell (k:=0) (v:=.int .u8 (h.k:Int)) rfl
 have HN:=Lib.hid (fun W=>nothing_any h h8 W)
 have H8:=Lib.hid h8
 obtain⟨k,hkk⟩:∃ k,h.k=k:=⟨_,rfl⟩
 have HK:=Lib.hid hkk
 rw[hkk]at ck hk
 have h256:(k:Int)<256:=by omega
 have HE:=Lib.hid hE
 have HP:=Lib.hid hp
 have HF:=Lib.hid hf
 have H16:=Lib.hid h16
 clear hkk hE hp hX hB0 h8 hf h16
 go_enter Tryz.func41,Tryz.ntmps41
 go_upto_region 1 with fail
 clear hw1
 go_upto_region 2 with fail
 have hn:=World.alloc_heap_new w1 (.cells #[.func (.func 92) #[] #[],.func (.func 92) #[] #[],.func (.func 93) #[] #[],.func (.func 94) #[] #[],.func (.func 95) #[] #[],.func (.func 93) #[] #[]] 120)
 have hB2:=upA w1 (.cells #[.func (.func 92) #[] #[],.func (.func 92) #[] #[],.func (.func 93) #[] #[],.func (.func 94) #[] #[],.func (.func 95) #[] #[],.func (.func 93) #[] #[]] 120)
 have hX2:=HX.out.go hB2
 have ck2:=hX2.cell (k:=0) (v:=.int .u8 (h.k:Int)) rfl
 rw[HK.out]at ck2
 obtain⟨w2,hw2⟩:∃ w2,w1.alloc (.cells #[.func (.func 92) #[] #[],.func (.func 92) #[] #[],.func (.func 93) #[] #[],.func (.func 94) #[] #[],.func (.func 95) #[] #[],.func (.func 93) #[] #[]] 120)=w2:=⟨_,rfl⟩
 rw[hw2]at hn hB2 hX2 ck2 ⊢
 clear hw2 ck
 have HB2:=Lib.hid (upB HB0.out hB2)
 have HX2:=Lib.hid hX2
 have HHN:=Lib.hid hn
 clear hB2 hX2 hn
 by_cases hk6:6<=k
 ·have HV:Hid (hS8 h=[]):=Lib.hid (by unfold hS8;rw[HK.out,if_neg (by omega),if_neg (by omega),if_neg (by omega),if_neg (by omega)])
  have h6:(6:Int)<=(k:Int):=by omega
  go_wp2_with(first|(refine loadV _ rfl _ 65 rfl h HX2.out H8.out rfl ?_)|(go_at_call 92;refine (HN.out _).mono ?_;rintro e w3 ⟨rfl,hB3⟩)|fail)
  go_ret
  exact⟨by rw[HV.out];rfl,upB HB2.out hB3⟩
 ·obtain⟨x0,x1,x2,x3,x4,x5,x6,x7,hx⟩:=Sx.eight H8.out
  have hcs:h.cs=[.int .u8 (h.k:Int),.string (Fou.bs h.s),.int .u32 (h.f:Int),.int .u16 (x0:Int),.int .u16 (x1:Int),.int .u16 (x2:Int),.int .u16 (x3:Int),.int .u16 (x4:Int),.int .u16 (x5:Int),.int .u16 (x6:Int),.int .u16 (x7:Int)]:=by unfold Ho.cs;rw[hx];rfl
  have a0:=HX2.out.cell (k:=0) (v:=.int .u8 (h.k:Int)) (by rw[hcs];rfl)
  have a1:=HX2.out.cell (k:=1) (v:=.string (Fou.bs h.s)) (by rw[hcs];rfl)
  have a2:=HX2.out.cell (k:=2) (v:=.int .u32 (h.f:Int)) (by rw[hcs];rfl)
  have a3:=HX2.out.cell (k:=3) (v:=.int .u16 (x0:Int)) (by rw[hcs];rfl)
  have a4:=HX2.out.cell (k:=4) (v:=.int .u16 (x1:Int)) (by rw[hcs];rfl)
  have a5:=HX2.out.cell (k:=5) (v:=.int .u16 (x2:Int)) (by rw[hcs];rfl)
  have a6:=HX2.out.cell (k:=6) (v:=.int .u16 (x3:Int)) (by rw[hcs];rfl)
  have a7:=HX2.out.cell (k:=7) (v:=.int .u16 (x4:Int)) (by rw[hcs];rfl)
  have a8:=HX2.out.cell (k:=8) (v:=.int .u16 (x5:Int)) (by rw[hcs];rfl)
  have a9:=HX2.out.cell (k:=9) (v:=.int .u16 (x6:Int)) (by rw[hcs];rfl)
  have a10:=HX2.out.cell (k:=10) (v:=.int .u16 (x7:Int)) (by rw[hcs];rfl)
  rw[HK.out]at a0
  have HCS:=Lib.hid hcs
  clear hcs
  have hks:k=0∨k=1∨k=2∨k=3∨k=4∨k=5:=by omega
  clear hx
  rcases hks with rfl|rfl|rfl|rfl|rfl|rfl
  ·have HV:Hid (hS8 h=[]):=Lib.hid (by unfold hS8;rw[HK.out];rfl)
   have HM:=Lib.hid (fun W (hb:Below w2.heap.size w2 W)=>nothing_any h H8.out W)
   have hvv:h.v = .agg #[.int .u8 0,.string (Fou.bs h.s),.int .u32 (h.f:Int),.int .u16 (x0:Int),.int .u16 (x1:Int),.int .u16 (x2:Int),.int .u16 (x3:Int),.int .u16 (x4:Int),.int .u16 (x5:Int),.int .u16 (x6:Int),.int .u16 (x7:Int)]:=by
    show Value.agg h.cs.toArray=_
    rw[HCS.out,HK.out]
    rfl
   rw[hvv]at HM
   clear hvv
   have cf:w2.cell? ⟨w1.heap.size,0,none⟩=some (.func (.func 92) #[] #[]):=by simp[World.cell?,HHN.out]
   go_upto_region 4 with fail
   go_region_law (first|(go_simp;go_at_call 92;(with_reducible refine (HM.out _ (Below.refl _ w2).drew).mono ?_);rintro e w3 ⟨rfl,hB3⟩)|fail)
   all_goals
    go_wp2_with fail
    go_ret
    exact⟨by rw[HV.out];rfl,upB HB2.out ((Below.refl w2.heap.size w2).drew.trans hB3)⟩
  ·have HV:Hid (hS8 h=[]):=Lib.hid (by unfold hS8;rw[HK.out];rfl)
   have HM:=Lib.hid (fun W (hb:Below w2.heap.size w2 W)=>nothing_any h H8.out W)
   have hvv:h.v = .agg #[.int .u8 1,.string (Fou.bs h.s),.int .u32 (h.f:Int),.int .u16 (x0:Int),.int .u16 (x1:Int),.int .u16 (x2:Int),.int .u16 (x3:Int),.int .u16 (x4:Int),.int .u16 (x5:Int),.int .u16 (x6:Int),.int .u16 (x7:Int)]:=by
    show Value.agg h.cs.toArray=_
    rw[HCS.out,HK.out]
    rfl
   rw[hvv]at HM
   clear hvv
   have cf:w2.cell? ⟨w1.heap.size,1,none⟩=some (.func (.func 92) #[] #[]):=by simp[World.cell?,HHN.out]
   go_upto_region 4 with fail
   go_region_law (first|(go_simp;go_at_call 92;(with_reducible refine (HM.out _ (Below.refl _ w2).drew).mono ?_);rintro e w3 ⟨rfl,hB3⟩)|fail)
   all_goals
    go_wp2_with fail
    go_ret
    exact⟨by rw[HV.out];rfl,upB HB2.out ((Below.refl w2.heap.size w2).drew.trans hB3)⟩
  ·have HV:Hid (hS8 h=h.s):=Lib.hid (by unfold hS8;rw[HK.out];rfl)
   have HM:=Lib.hid (fun W (hb:Below w2.heap.size w2 W)=>name_any h H8.out W)
   have hvv:h.v = .agg #[.int .u8 2,.string (Fou.bs h.s),.int .u32 (h.f:Int),.int .u16 (x0:Int),.int .u16 (x1:Int),.int .u16 (x2:Int),.int .u16 (x3:Int),.int .u16 (x4:Int),.int .u16 (x5:Int),.int .u16 (x6:Int),.int .u16 (x7:Int)]:=by
    show Value.agg h.cs.toArray=_
    rw[HCS.out,HK.out]
    rfl
   rw[hvv]at HM
   clear hvv
   have cf:w2.cell? ⟨w1.heap.size,2,none⟩=some (.func (.func 93) #[] #[]):=by simp[World.cell?,HHN.out]
   go_upto_region 4 with fail
   go_region_law (first|(go_simp;go_at_call 93;(with_reducible refine (HM.out _ (Below.refl _ w2).drew).mono ?_);rintro e w3 ⟨rfl,hB3⟩)|fail)
   all_goals
    go_wp2_with fail
    go_ret
    exact⟨by rw[HV.out];rfl,upB HB2.out ((Below.refl w2.heap.size w2).drew.trans hB3)⟩
  ·have HV:Hid (hS8 h=Fou.shw h.f):=Lib.hid (by unfold hS8;rw[HK.out];rfl)
   have HM:=Lib.hid (fun W (hb:Below w2.heap.size w2 W)=>vfour_any h H8.out HF.out W (Fou.tab_go HP.out (upB HB2.out hb)))
   have hvv:h.v = .agg #[.int .u8 3,.string (Fou.bs h.s),.int .u32 (h.f:Int),.int .u16 (x0:Int),.int .u16 (x1:Int),.int .u16 (x2:Int),.int .u16 (x3:Int),.int .u16 (x4:Int),.int .u16 (x5:Int),.int .u16 (x6:Int),.int .u16 (x7:Int)]:=by
    show Value.agg h.cs.toArray=_
    rw[HCS.out,HK.out]
    rfl
   rw[hvv]at HM
   clear hvv
   have cf:w2.cell? ⟨w1.heap.size,3,none⟩=some (.func (.func 94) #[] #[]):=by simp[World.cell?,HHN.out]
   go_upto_region 4 with fail
   go_region_law (first|(go_simp;go_at_call 94;(with_reducible refine (HM.out _ (Below.refl _ w2).drew).mono ?_);rintro e w3 ⟨rfl,hB3⟩)|fail)
   all_goals
    go_wp2_with fail
    go_ret
    exact⟨by rw[HV.out];rfl,upB HB2.out ((Below.refl w2.heap.size w2).drew.trans hB3)⟩
  ·have HV:Hid (hS8 h=[91]++sixS h.x++[93]):=Lib.hid (by unfold hS8;rw[HK.out];rfl)
   have HM:=Lib.hid (fun W (hb:Below w2.heap.size w2 W)=>vsix_any h H8.out H16.out W (HE.out.go (upB HB2.out hb)))
   have hvv:h.v = .agg #[.int .u8 4,.string (Fou.bs h.s),.int .u32 (h.f:Int),.int .u16 (x0:Int),.int .u16 (x1:Int),.int .u16 (x2:Int),.int .u16 (x3:Int),.int .u16 (x4:Int),.int .u16 (x5:Int),.int .u16 (x6:Int),.int .u16 (x7:Int)]:=by
    show Value.agg h.cs.toArray=_
    rw[HCS.out,HK.out]
    rfl
   rw[hvv]at HM
   clear hvv
   have cf:w2.cell? ⟨w1.heap.size,4,none⟩=some (.func (.func 95) #[] #[]):=by simp[World.cell?,HHN.out]
   go_upto_region 4 with fail
   go_region_law (first|(go_simp;go_at_call 95;(with_reducible refine (HM.out _ (Below.refl _ w2).drew).mono ?_);rintro e w3 ⟨rfl,hB3⟩)|fail)
   all_goals
    go_wp2_with fail
    go_ret
    exact⟨by rw[HV.out];rfl,upB HB2.out ((Below.refl w2.heap.size w2).drew.trans hB3)⟩
  ·have HV:Hid (hS8 h=h.s):=Lib.hid (by unfold hS8;rw[HK.out];rfl)
   have HM:=Lib.hid (fun W (hb:Below w2.heap.size w2 W)=>name_any h H8.out W)
   have hvv:h.v = .agg #[.int .u8 5,.string (Fou.bs h.s),.int .u32 (h.f:Int),.int .u16 (x0:Int),.int .u16 (x1:Int),.int .u16 (x2:Int),.int .u16 (x3:Int),.int .u16 (x4:Int),.int .u16 (x5:Int),.int .u16 (x6:Int),.int .u16 (x7:Int)]:=by
    show Value.agg h.cs.toArray=_
    rw[HCS.out,HK.out]
    rfl
   rw[hvv]at HM
   clear hvv
   have cf:w2.cell? ⟨w1.heap.size,5,none⟩=some (.func (.func 93) #[] #[]):=by simp[World.cell?,HHN.out]
   go_upto_region 4 with fail
   go_region_law (first|(go_simp;go_at_call 93;(with_reducible refine (HM.out _ (Below.refl _ w2).drew).mono ?_);rintro e w3 ⟨rfl,hB3⟩)|fail)
   all_goals
    go_wp2_with fail
    go_ret
    exact⟨by rw[HV.out];rfl,upB HB2.out ((Below.refl w2.heap.size w2).drew.trans hB3)⟩
end Go.Proofs.YtediahdedmkehaaGreatDoor.Hst
namespace Go.Proofs.YtediahdedmkehaaGreatDoor.Hst
open Go.RowKit Utf Ut Remap Norm Pn Puny
theorem HShow_any(h:Ho)(ho:Okh h)(w:World)(hE:Sx.Env w)(hp:Fou.PowIs w):Calls Tryz.prog 13 #[h.v] w (Gvs (hS8 h) w):=by
 have hB0:=upA w (.cells h.cs.toArray 27)
 have hX:=HBk.new w 27 h
 have HT:=Lib.hid (text_any h ho (w.alloc (.cells h.cs.toArray 27)) (hE.go hB0) (Fou.tab_go hp hB0))
 obtain⟨w1,hw1⟩:∃ w1,w.alloc (.cells h.cs.toArray 27)=w1:=⟨_,rfl⟩
 rw[hw1]at hB0 hX HT
 have HB0:=Lib.hid hB0
 have HX:=Lib.hid hX
 have H8:=Lib.hid ho.2.2.1
 obtain⟨t,ht⟩:∃ t,hS8 h=t:=⟨_,rfl⟩
 rw[ht]at HT ⊢
 unfold Gvs at HT
 clear hE hp hB0 hX ho ht
 go_enter Tryz.func13,Tryz.ntmps13
 go_upto_region 1 with fail
 clear hw1
 go_wp2_with(first|(refine loadH _ rfl _ 27 rfl h HX.out H8.out rfl ?_)|(go_at_call 41;refine HT.out.mono ?_;rintro e w2 ⟨rfl,hB2⟩)|fail)
 go_ret
 exact⟨rfl,upB HB0.out hB2⟩
theorem hP_err{l:List Int}{sp:Bool}{x:Int}(h:hP l sp = .inl x):x≠0:=by
 have hb:∀ o,brH o = .inl x->x≠0:=fun o e=>by
  cases o<;>cases e
  decide
 have hn:nmH (nmd l) = .inl x->x≠0:=fun e=>by
  have hp:∀ o y,pfo o = .inl y->y≠0:=fun o y e=>by cases o<;>cases e;decide
  have h2:∀ o y,nm2 o = .inl y->y≠0:=fun o y e=>by
   cases o with
   | none=>cases e;decide
   | some t =>
    have e':(if t.any fdB=true then (.inl 32:Int ⊕ (List UInt8 ⊕ Nat)) else if Fou.ends t=false then .inr (.inl t) else pfo (Fou.ans t)) = .inl y:=e
    by_cases h1:t.any fdB=true
    ·rw[if_pos h1]at e';cases e';decide
    ·rw[if_neg h1]at e'
     by_cases h2:Fou.ends t=false
     ·rw[if_pos h2]at e';cases e'
     ·rw[if_neg h2]at e';exact hp _ _ e'
  rcases hv:nmd l with y|t|y
  ·rw[hv]at e
   cases e
   exact h2 _ _ hv
  ·rw[hv]at e;cases e
  ·rw[hv]at e;cases e
 unfold hP at h
 split at h
 ·exact hb _ h
 ·split at h
  ·exact hn h
  ·split at h
   ·cases h
   ·unfold opH at h
    split at h
    ·cases h;decide
    ·cases h
end Go.Proofs.YtediahdedmkehaaGreatDoor.Hst
namespace Go.Proofs.YtediahdedmkehaaGreatDoor.Hst
open Go.RowKit Utf Remap Norm Pn Puny
theorem fullN_pair:tabP.all (fun t=>decide ((fullN 3 t.2.1).length<=2))=true:=by decide +kernel
theorem full_3le(r:Int):(full r).length<=3:=by
 by_cases hs:44032<=r/\r<55204
 ·rw[full_len_eq hs.1 hs.2]
  split<;>omega
 ·have hsy:syl r=false:=by
   cases h:syl r with
   | false=>rfl
   | true =>
    have:44032<=r/\r<=55203:=by simpa[syl] using h
    omega
  unfold full
  rw[fullN]
  split
  ·decide +kernel
  ·split
   ·decide +kernel
   ·split
    ·rename_i p hp
     unfold spl at hp
     rw[if_neg (by rw[hsy];decide)]at hp
     obtain⟨t,ht,rfl⟩:=Option.map_eq_some_iff.1 hp
     have h2:=of_decide_eq_true (List.all_eq_true.1 fullN_pair t (List.mem_of_find?_eq_some ht))
     rw[List.length_append,List.length_singleton]
     omega
    ·simp
theorem dec_3len:∀ l:List Int,(dec l).length<=l.length*3
 | []=>by simp[dec]
 | x :: t => by
  have ih:=dec_3len t
  rw[dec_eq]at ih ⊢
  rw[List.flatMap_cons,List.length_append,List.length_cons]
  have:(dec1 x).length<=3:=by unfold dec1;rw[List.length_map];exact full_3le x
  omega
theorem m1_dec(r:Int):(dec (m1 r)).length<=3:=by
 rcases m1_cases r with h|h|h|⟨s,_,_,h⟩
 ·rw[h];exact dec_3len [r]
 ·rw[h];simp[dec]
 ·rw[h];decide +kernel
 ·rw[h];exact dec_3len [_]
theorem mapL_dec:∀ l:List Int,(dec (mapL l)).length<=l.length*3
 | []=>by simp[mapL,dec]
 | x :: t => by
  have ih:=mapL_dec t
  have e:mapL (x::t)=m1 x++mapL t:=rfl
  have e2:dec (m1 x++mapL t)=dec (m1 x)++dec (mapL t):=by unfold dec;rw[List.flatMap_append]
  rw[e,e2,List.length_append,List.length_cons]
  have:=m1_dec x
  omega
theorem nfc_3len{l:List Int}(h:∀ x∈mapL l,Utf.sca x=true):(nfc (mapL l)).length<=l.length*3:=by
 have hc:C32 (mapL l):=fun x hx=>by have:=sca_pos (h x hx);omega
 have h1:=nfc_le hc
 rw[nfd_len]at h1
 have:=mapL_dec l
 omega
theorem fits_300{l:List Int}(h:l.length<=300):Fits l:=fun hg=>by
 have hm:=mapL_len l
 have hn:=nfc_3len (mapL_sca hg)
 have ht:(toN (nfc (mapL l))).length=(nfc (mapL l)).length:=by unfold toN;rw[List.length_map]
 have hl:=lab_len (toN (nfc (mapL l)))
 exact⟨by omega,by omega,fun p hp=>by have:=(lab_mem hp).2;omega⟩
theorem enc_low{l:List Int}(h:∀ x∈l,0<=x/\x<128):enc l=l:=by
 induction l with
 | nil=>rfl
 | cons x t ih =>
  have hx:=h x (List.mem_cons_self ..)
  rw[enc_cons,ih fun y hy=>h y (List.mem_cons_of_mem _ hy)]
  have:encOne x=[x]:=by
   unfold encOne
   rw[fix_of_sca (decide_eq_true (by omega)),Utf.b1_1 (by omega)]
  rw[this]
  rfl
theorem pgo_plain:∀ {l:List UInt8},(37:UInt8) ∉ l->pgo 0 l=bi l
 | [],_=>rfl
 | c :: t, h => by
  have hc:c≠37:=fun e=>h (by simp[e])
  have e:cod (c::t)=(c.toNat,false):=if_neg hc
  rw[pgo,e]
  show (c.toNat:Int)::pgo (if false=true then 2 else 0) t=_
  rw[if_neg (by decide),pgo_plain fun e=>h (List.mem_cons_of_mem _ e)]
  rfl
theorem nums_bi(l:List Int)(h:∀ x∈l,0<=x/\x<256):bi (dl (strOfNums l))=l:=by
 show bi (l.map fun n=>UInt8.ofNat n.toNat).toArray.toList=l
 unfold bi
 rw[List.map_map]
 refine (List.map_congr_left fun x hx => ?_).trans (List.map_id l)
 have:=h x hx
 show (((UInt8.ofNat x.toNat).toNat:Nat):Int)=x
 have e:(UInt8.ofNat x.toNat).toNat=x.toNat:=by
  simp
  omega
 rw[e]
 omega
theorem nums_mem{l:List Int}{b:UInt8}(h:b∈dl (strOfNums l)):∃ x∈l,b=UInt8.ofNat x.toNat:=by
 obtain⟨x,hx,e⟩:=List.mem_map.1 (show b∈l.map fun n=>UInt8.ofNat n.toNat from h)
 exact⟨x,hx,e.symm⟩
theorem dcd_plain{l:List Int}(h:∀ x∈l,0<=x/\x<128)(h37:(37:Int) ∉ l):dcd l=l:=by
 have e1:=enc_low h
 have e2:pby l=l:=by
  unfold pby
  rw[e1]
  unfold pdec
  rw[pgo_plain,nums_bi l fun x hx=>by have:=h x hx;omega]
  intro hm
  obtain⟨x,hx,e⟩:=nums_mem hm
  have hx':=h x hx
  have:x.toNat=37:=by
   have:=congrArg UInt8.toNat e
   simp at this
   omega
  exact h37 (by rwa [show (37:Int)=x by omega])
 unfold dcd
 rw[e2]
 have:=Utf.dec_enc l
 rw[e1]at this
 rw[this]
 refine (List.map_congr_left fun x hx => ?_).trans (List.map_id l)
 have:=h x hx
 exact fix_of_sca (decide_eq_true (by omega))
theorem dcd_asc_len{l:List Int}(h:∀ x∈l,0<=x/\x<128):(dcd l).length<=l.length:=by
 have h1:=pdec_le (dl (strOfNums (enc l))) 0
 have h2:(dl (strOfNums (enc l))).length=(enc l).length:=by simp[dl,strOfNums]
 have h3:=codes_len (pby l)
 rw[enc_low h]at h1 h2
 have h4:(pby l).length<=l.length:=by unfold pby pdec;rw[enc_low h];omega
 unfold dcd Utf.dec
 rw[List.length_map]
 omega
theorem conv_asc(s:ByteArray)(w:World)(h:∀ x∈dl s,x.toNat<128)(hs:s.size<=1000000) :
  ∃ W' c,(convert 9 22 (.string s)).run Tryz.prog w = .ok (.slice (some ⟨w.heap.size,0,none⟩) s.size c) W'/\s.size<=c/\Row W' W'.heap.size (some ⟨w.heap.size,0,none⟩) (cl .i32 (bi (dl s)))/\Below w.heap.size w W':=by
 obtain⟨c,hrun,hc,_⟩:=Pn.conv_runes s w h hs
 have hl:(Pn.nat8 s.data.toList).length=s.size:=by simp[Pn.nat8]
 rw[hl]at hrun hc
 refine⟨_,c,hrun,hc, ?_,(Below.refl _ w).drew.alloc (Nat.le_refl _) _⟩
 have e:cn (Pn.nat8 s.data.toList)=cl .i32 (bi (dl s)):=by
  rw[cn_ofN]
  unfold bi ofN Pn.nat8
  rw[List.map_map]
  rfl
 rw[e]
 refine .inr ⟨w.heap.size,0,rfl,by rw[World.size_alloc];exact Nat.lt_succ_self _,fun k hk => ?_⟩
 have hn:=World.alloc_heap_new w.drew (.cells ((cl .i32 (bi (dl s))).toArray++Array.replicate (c-s.size) (.int .i32 0)) 21)
 rw[Nat.zero_add]
 show World.cell? _ ⟨w.drew.heap.size,k,none⟩=_
 rw[cell_of_row _ _ k _ _ _ hn]
 have hk2:k<(bi (dl s)).length:=by simpa[cl] using hk
 simp[Array.getElem?_append]
 intro h2
 omega
def rdE:Int ⊕ Ho->Ho
 | .inl _=>⟨99,[101,114,114,111,114],0,Sx.z8⟩
 | .inr h=>h
def erE:Int ⊕ Ho->Int
 | .inl x=>x
 | .inr _=>0
theorem bi_asc{t:List UInt8}(h:∀ b∈t,b.toNat<128):∀ x∈bi t,0<=x/\x<128:=by
 intro x hx
 obtain⟨b,hb,rfl⟩:=List.mem_map.1 hx
 have:=h b hb
 omega
theorem Parse_asc(s:ByteArray)(ha:∀ b∈dl s,b.toNat<128)(hs:s.size<=300)(sp:Bool)(c:Nat)(hc:s.size<=c)(A:Option Addr)(w:World)(hE:Sx.Env w)(hr:Row w w.heap.size A (cl .i32 (bi (dl s)))) :
  Calls Tryz.prog 9 #[.slice A s.size c,.bool sp] w (HoR (hP (bi (dl s)) sp) w):=by
 have hn:(bi (dl s)).length=s.size:=by simp[bi,dl]
 have hd:=dcd_asc_len (bi_asc ha)
 exact HParse_any (bi (dl s)) sp A s.size c w hn (by omega) hc (fun _=>by omega) (fun _=>by omega) (fun _=>⟨by omega,fits_300 (by omega)⟩) hE hr
theorem reads_any(s:ByteArray)(ha:∀ b∈dl s,b.toNat<128)(hs:s.size<=300)(sp:Bool)(w:World)(hE:Sx.Env w):Calls Tryz.prog 24 #[.string s,.bool sp] w (fun e w'=>e = .returned (rdE (hP (bi (dl s)) sp)).v/\Below w.heap.size w w'):=by
 have hB0:=upA w (.cells hN.cs.toArray 27)
 have hX:=HBk.new w 27 hN
 obtain⟨w1,hw1⟩:∃ w1,w.alloc (.cells hN.cs.toArray 27)=w1:=⟨_,rfl⟩
 rw[hw1]at hB0 hX
 have hw2:w.alloc (.cells #[.int .u8 0,.string ⟨#[]⟩,.int .u32 0,.int .u16 0,.int .u16 0,.int .u16 0,.int .u16 0,.int .u16 0,.int .u16 0,.int .u16 0,.int .u16 0] 27)=w1:=hw1
 clear hw1
 obtain⟨W2,c,hcv,hc,hr,hB2⟩:=conv_asc s w1 ha (by omega)
 have HP:=Lib.hid (Parse_asc s ha hs sp c hc _ W2 (hE.go (upB hB0 hB2)) hr)
 have HE:=Lib.hid (fun x (h:hP (bi (dl s)) sp = .inl x)=>hP_err h)
 have HL:=Lib.hid (fun h (e:hP (bi (dl s)) sp = .inr h)=>hP_len e)
 obtain⟨v,hv⟩:∃ v,hP (bi (dl s)) sp=v:=⟨_,rfl⟩
 rw[hv]at HP HE HL ⊢
 unfold HoR at HP
 have HB0:=Lib.hid hB0
 have HX:=Lib.hid hX
 have hlt:=hX.lt
 have HB2:=Lib.hid hB2
 clear hv hB0 hX hB2 hr hE ha hc
 cases v with
 | inl x =>
  have hx:(x != 0)=true:=by simpa using HE.out x rfl
  unfold HoV at HP
  go_enter Tryz.func24,Tryz.ntmps24
  go_upto_region 1 with fail
  clear hw2
  go_wp2_with(first
   | (go_at_call 9;refine HP.out.mono ?_;rintro e w3 ⟨rfl,hB3⟩)
   | (refine storeH rfl _ _ rfl _ 27 hN hN rfl rfl (HBk.new w3 27 hN) rfl rfl ?_;intro w4 hX4 hB4;have hB4':=(upA w3 (.cells hN.cs.toArray 27)).trans hB4;have hX0:=((HX.out.go HB2.out).go hB3).go hB4')
   | (refine storeH rfl _ _ rfl _ 27 hN ⟨99,[101,114,114,111,114],0,Sx.z8⟩ rfl rfl hX0 rfl rfl ?_;intro w5 hX5 hB5)
   | fail)
  refine bodyPost_ret (Sx.results_cell Tryz.results24 rfl (load_var hX5 rfl)) rfl ⟨rfl, ?_⟩
  exact (upB (upB (upB HB0.out HB2.out) hB3) hB4').trans hB5
 | inr h =>
  have H8:=Lib.hid (HL.out h rfl)
  unfold HoV at HP
  go_enter Tryz.func24,Tryz.ntmps24
  go_upto_region 1 with fail
  clear hw2
  go_wp2_with(first
   | (go_at_call 9;refine HP.out.mono ?_;rintro e w3 ⟨rfl,hB3⟩)
   | (refine storeH rfl _ _ rfl _ 27 hN h rfl rfl (HBk.new w3 27 hN) rfl H8.out ?_;intro w4 hX4 hB4;have hB4':=(upA w3 (.cells hN.cs.toArray 27)).trans hB4;have hX0:=((HX.out.go HB2.out).go hB3).go hB4')
   | (refine loadH _ rfl _ 27 rfl h hX4 H8.out rfl ?_)
   | (refine storeH rfl _ _ rfl _ 27 hN h rfl rfl hX0 rfl H8.out ?_;intro w5 hX5 hB5)
   | fail)
  refine bodyPost_ret (Sx.results_cell Tryz.results24 rfl (load_var hX5 H8.out)) rfl ⟨rfl, ?_⟩
  exact (upB (upB (upB HB0.out HB2.out) hB3) hB4').trans hB5
theorem fails_any(s:ByteArray)(ha:∀ b∈dl s,b.toNat<128)(hs:s.size<=300)(sp:Bool)(w:World)(hE:Sx.Env w):Calls Tryz.prog 25 #[.string s,.bool sp] w (fun e w'=>e = .returned (.int .i64 (erE (hP (bi (dl s)) sp)))/\Below w.heap.size w w'):=by
 obtain⟨W2,c,hcv,hc,hr,hB2⟩:=conv_asc s w ha (by omega)
 have HP:=Lib.hid (Parse_asc s ha hs sp c hc _ W2 (hE.go hB2) hr)
 have HL:=Lib.hid (fun h (e:hP (bi (dl s)) sp = .inr h)=>hP_len e)
 obtain⟨v,hv⟩:∃ v,hP (bi (dl s)) sp=v:=⟨_,rfl⟩
 rw[hv]at HP HL ⊢
 unfold HoR at HP
 obtain⟨h,x,hvv,h8⟩:=hoV_split v (fun h e=>HL.out h e)
 have he:erE v=x:=by
  cases v with
  | inl y=>injection hvv with e;injection e with e;simp at e;exact e.2
  | inr y=>injection hvv with e;injection e with e;simp at e;exact e.2
 rw[hvv]at HP
 rw[he]
 have HB2:=Lib.hid hB2
 clear hv hB2 hr hE ha hc he hvv HL
 go_enter Tryz.func25,Tryz.ntmps25
 go_wp2_with(first
  | (go_at_call 9;refine HP.out.mono ?_;rintro e w3 ⟨rfl,hB3⟩)
  | (refine storeH rfl _ _ rfl _ 27 hN h rfl rfl (HBk.new w3 27 hN) rfl h8 ?_;intro w4 hX4 hB4;have hB4':=(upA w3 (.cells hN.cs.toArray 27)).trans hB4)
  | fail)
 go_ret
 exact⟨rfl,upB (upB HB2.out hB3) hB4'⟩
theorem ex1:hP (bi [69,88,65,77,80,76,69,46,99,111,109]) true = .inr ⟨2,[101,120,97,109,112,108,101,46,99,111,109],0,Sx.z8⟩:=by decide +kernel
theorem ex2:hP (bi [37,52,49]) true = .inr ⟨2,[97],0,Sx.z8⟩:=by decide +kernel
theorem ex3:hP (bi [48,120,55,102,46,49]) true = .inr ⟨3,[],2130706433,Sx.z8⟩:=by decide +kernel
theorem ex4:hP (bi [48,120,55,102,46,49]) false = .inr ⟨5,[48,120,55,102,46,49],0,Sx.z8⟩:=by decide +kernel
theorem ex5:hP (bi [91,58,58,49,93]) true = .inr ⟨4,[],0,[0,0,0,0,0,0,0,1]⟩:=by decide +kernel
theorem ex6:hP (bi [91,58,58,49,93]) false = .inr ⟨4,[],0,[0,0,0,0,0,0,0,1]⟩:=by decide +kernel
theorem ex7:hP (bi [97,32,98]) true = .inl 32:=by decide +kernel
theorem ex8:hP (bi [97,32,98]) false = .inl 32:=by decide +kernel
theorem ex9:hP (bi [97,37,98]) true = .inl 32:=by decide +kernel
theorem ex10:hP (bi [97,37,98]) false = .inr ⟨5,[97,37,98],0,Sx.z8⟩:=by decide +kernel
theorem ex11:hP (bi []) true = .inl 32:=by decide +kernel
theorem ex12:hP (bi [91,58,58,49]) true = .inl 31:=by decide +kernel
theorem ex13:hP (bi [49,46,50,53,54,46,49]) true = .inl 30:=by decide +kernel
theorem reads_lit(s:ByteArray)(sp:Bool)(h:Ho)(v:Value)(hp:hP (bi (dl s)) sp = .inr h)(hv:h.v=v)(ha:(dl s).all (fun b=>decide (b.toNat<128))=true)(hs:s.size<=300)(w:World)(hE:Sx.Env w):Calls Tryz.prog 24 #[.string s,.bool sp] w (fun e w'=>e = .returned v/\Below w.heap.size w w'):=by
 have:=reads_any s (fun b hb=>of_decide_eq_true (List.all_eq_true.1 ha b hb)) hs sp w hE
 rw[hp]at this
 subst hv
 exact this
theorem fails_lit(s:ByteArray)(sp:Bool)(x:Int)(hp:hP (bi (dl s)) sp = .inl x)(ha:(dl s).all (fun b=>decide (b.toNat<128))=true)(hs:s.size<=300)(w:World)(hE:Sx.Env w):Calls Tryz.prog 25 #[.string s,.bool sp] w (fun e w'=>e = .returned (.int .i64 x)/\Below w.heap.size w w'):=by
 have:=fails_any s (fun b hb=>of_decide_eq_true (List.all_eq_true.1 ha b hb)) hs sp w hE
 rw[hp]at this
 exact this
theorem same_lit(h:Ho)(v:Value)(hv:h.v=v)(h8:h.x.length=8)(w:World):(Op.equalIn 10000 27 v v).run Tryz.prog w = .ok true w:=by
 subst hv
 have:=equalH h h h8 h8 w
 rw[decide_eq_true rfl]at this
 exact this
theorem awake14_any(w:World)(hE:Sx.Env w):Calls Tryz.prog 8 #[] w (Says true w):=by
 have HC0:Hid (∀ W,Below w.heap.size w W->Calls Tryz.prog 24 #[.string ⟨#[69,88,65,77,80,76,69,46,99,111,109]⟩,.bool true] W (fun e w'=>e = .returned (.agg #[.int .u8 2,.string ⟨#[101,120,97,109,112,108,101,46,99,111,109]⟩,.int .u32 0,.int .u16 0,.int .u16 0,.int .u16 0,.int .u16 0,.int .u16 0,.int .u16 0,.int .u16 0,.int .u16 0])/\Below W.heap.size W w')):=Lib.hid (fun W h=>reads_lit ⟨#[69,88,65,77,80,76,69,46,99,111,109]⟩ true ⟨2,[101,120,97,109,112,108,101,46,99,111,109],0,Sx.z8⟩ _ ex1 rfl (by decide) (by decide) W (hE.go h))
 have HC1:Hid (∀ W,Below w.heap.size w W->Calls Tryz.prog 24 #[.string ⟨#[37,52,49]⟩,.bool true] W (fun e w'=>e = .returned (.agg #[.int .u8 2,.string ⟨#[97]⟩,.int .u32 0,.int .u16 0,.int .u16 0,.int .u16 0,.int .u16 0,.int .u16 0,.int .u16 0,.int .u16 0,.int .u16 0])/\Below W.heap.size W w')):=Lib.hid (fun W h=>reads_lit ⟨#[37,52,49]⟩ true ⟨2,[97],0,Sx.z8⟩ _ ex2 rfl (by decide) (by decide) W (hE.go h))
 have HC2:Hid (∀ W,Below w.heap.size w W->Calls Tryz.prog 24 #[.string ⟨#[48,120,55,102,46,49]⟩,.bool true] W (fun e w'=>e = .returned (.agg #[.int .u8 3,.string ⟨#[]⟩,.int .u32 2130706433,.int .u16 0,.int .u16 0,.int .u16 0,.int .u16 0,.int .u16 0,.int .u16 0,.int .u16 0,.int .u16 0])/\Below W.heap.size W w')):=Lib.hid (fun W h=>reads_lit ⟨#[48,120,55,102,46,49]⟩ true ⟨3,[],2130706433,Sx.z8⟩ _ ex3 rfl (by decide) (by decide) W (hE.go h))
 have HC3:Hid (∀ W,Below w.heap.size w W->Calls Tryz.prog 24 #[.string ⟨#[48,120,55,102,46,49]⟩,.bool false] W (fun e w'=>e = .returned (.agg #[.int .u8 5,.string ⟨#[48,120,55,102,46,49]⟩,.int .u32 0,.int .u16 0,.int .u16 0,.int .u16 0,.int .u16 0,.int .u16 0,.int .u16 0,.int .u16 0,.int .u16 0])/\Below W.heap.size W w')):=Lib.hid (fun W h=>reads_lit ⟨#[48,120,55,102,46,49]⟩ false ⟨5,[48,120,55,102,46,49],0,Sx.z8⟩ _ ex4 rfl (by decide) (by decide) W (hE.go h))
 have HC4:Hid (∀ W,Below w.heap.size w W->Calls Tryz.prog 24 #[.string ⟨#[91,58,58,49,93]⟩,.bool true] W (fun e w'=>e = .returned (.agg #[.int .u8 4,.string ⟨#[]⟩,.int .u32 0,.int .u16 0,.int .u16 0,.int .u16 0,.int .u16 0,.int .u16 0,.int .u16 0,.int .u16 0,.int .u16 1])/\Below W.heap.size W w')):=Lib.hid (fun W h=>reads_lit ⟨#[91,58,58,49,93]⟩ true ⟨4,[],0,[0,0,0,0,0,0,0,1]⟩ _ ex5 rfl (by decide) (by decide) W (hE.go h))
 have HC5:Hid (∀ W,Below w.heap.size w W->Calls Tryz.prog 24 #[.string ⟨#[91,58,58,49,93]⟩,.bool false] W (fun e w'=>e = .returned (.agg #[.int .u8 4,.string ⟨#[]⟩,.int .u32 0,.int .u16 0,.int .u16 0,.int .u16 0,.int .u16 0,.int .u16 0,.int .u16 0,.int .u16 0,.int .u16 1])/\Below W.heap.size W w')):=Lib.hid (fun W h=>reads_lit ⟨#[91,58,58,49,93]⟩ false ⟨4,[],0,[0,0,0,0,0,0,0,1]⟩ _ ex6 rfl (by decide) (by decide) W (hE.go h))
 have HC6:Hid (∀ W,Below w.heap.size w W->Calls Tryz.prog 25 #[.string ⟨#[97,32,98]⟩,.bool true] W (fun e w'=>e = .returned (.int .i64 32)/\Below W.heap.size W w')):=Lib.hid (fun W h=>fails_lit ⟨#[97,32,98]⟩ true 32 ex7 (by decide) (by decide) W (hE.go h))
 have HC7:Hid (∀ W,Below w.heap.size w W->Calls Tryz.prog 25 #[.string ⟨#[97,32,98]⟩,.bool false] W (fun e w'=>e = .returned (.int .i64 32)/\Below W.heap.size W w')):=Lib.hid (fun W h=>fails_lit ⟨#[97,32,98]⟩ false 32 ex8 (by decide) (by decide) W (hE.go h))
 have HC8:Hid (∀ W,Below w.heap.size w W->Calls Tryz.prog 25 #[.string ⟨#[97,37,98]⟩,.bool true] W (fun e w'=>e = .returned (.int .i64 32)/\Below W.heap.size W w')):=Lib.hid (fun W h=>fails_lit ⟨#[97,37,98]⟩ true 32 ex9 (by decide) (by decide) W (hE.go h))
 have HC9:Hid (∀ W,Below w.heap.size w W->Calls Tryz.prog 24 #[.string ⟨#[97,37,98]⟩,.bool false] W (fun e w'=>e = .returned (.agg #[.int .u8 5,.string ⟨#[97,37,98]⟩,.int .u32 0,.int .u16 0,.int .u16 0,.int .u16 0,.int .u16 0,.int .u16 0,.int .u16 0,.int .u16 0,.int .u16 0])/\Below W.heap.size W w')):=Lib.hid (fun W h=>reads_lit ⟨#[97,37,98]⟩ false ⟨5,[97,37,98],0,Sx.z8⟩ _ ex10 rfl (by decide) (by decide) W (hE.go h))
 have HC10:Hid (∀ W,Below w.heap.size w W->Calls Tryz.prog 25 #[.string ⟨#[]⟩,.bool true] W (fun e w'=>e = .returned (.int .i64 32)/\Below W.heap.size W w')):=Lib.hid (fun W h=>fails_lit ⟨#[]⟩ true 32 ex11 (by decide) (by decide) W (hE.go h))
 have HC11:Hid (∀ W,Below w.heap.size w W->Calls Tryz.prog 25 #[.string ⟨#[91,58,58,49]⟩,.bool true] W (fun e w'=>e = .returned (.int .i64 31)/\Below W.heap.size W w')):=Lib.hid (fun W h=>fails_lit ⟨#[91,58,58,49]⟩ true 31 ex12 (by decide) (by decide) W (hE.go h))
 have HC12:Hid (∀ W,Below w.heap.size w W->Calls Tryz.prog 25 #[.string ⟨#[49,46,50,53,54,46,49]⟩,.bool true] W (fun e w'=>e = .returned (.int .i64 30)/\Below W.heap.size W w')):=Lib.hid (fun W h=>fails_lit ⟨#[49,46,50,53,54,46,49]⟩ true 30 ex13 (by decide) (by decide) W (hE.go h))
 have he0:∀ W:World,(Op.equalIn 10000 27 (.agg #[.int .u8 2,.string ⟨#[101,120,97,109,112,108,101,46,99,111,109]⟩,.int .u32 0,.int .u16 0,.int .u16 0,.int .u16 0,.int .u16 0,.int .u16 0,.int .u16 0,.int .u16 0,.int .u16 0]) (.agg #[.int .u8 2,.string ⟨#[101,120,97,109,112,108,101,46,99,111,109]⟩,.int .u32 0,.int .u16 0,.int .u16 0,.int .u16 0,.int .u16 0,.int .u16 0,.int .u16 0,.int .u16 0,.int .u16 0])).run Tryz.prog W = .ok true W:=fun W=>same_lit ⟨2,[101,120,97,109,112,108,101,46,99,111,109],0,Sx.z8⟩ _ rfl rfl W
 have he1:∀ W:World,(Op.equalIn 10000 27 (.agg #[.int .u8 2,.string ⟨#[97]⟩,.int .u32 0,.int .u16 0,.int .u16 0,.int .u16 0,.int .u16 0,.int .u16 0,.int .u16 0,.int .u16 0,.int .u16 0]) (.agg #[.int .u8 2,.string ⟨#[97]⟩,.int .u32 0,.int .u16 0,.int .u16 0,.int .u16 0,.int .u16 0,.int .u16 0,.int .u16 0,.int .u16 0,.int .u16 0])).run Tryz.prog W = .ok true W:=fun W=>same_lit ⟨2,[97],0,Sx.z8⟩ _ rfl rfl W
 have he2:∀ W:World,(Op.equalIn 10000 27 (.agg #[.int .u8 3,.string ⟨#[]⟩,.int .u32 2130706433,.int .u16 0,.int .u16 0,.int .u16 0,.int .u16 0,.int .u16 0,.int .u16 0,.int .u16 0,.int .u16 0]) (.agg #[.int .u8 3,.string ⟨#[]⟩,.int .u32 2130706433,.int .u16 0,.int .u16 0,.int .u16 0,.int .u16 0,.int .u16 0,.int .u16 0,.int .u16 0,.int .u16 0])).run Tryz.prog W = .ok true W:=fun W=>same_lit ⟨3,[],2130706433,Sx.z8⟩ _ rfl rfl W
 have he3:∀ W:World,(Op.equalIn 10000 27 (.agg #[.int .u8 5,.string ⟨#[48,120,55,102,46,49]⟩,.int .u32 0,.int .u16 0,.int .u16 0,.int .u16 0,.int .u16 0,.int .u16 0,.int .u16 0,.int .u16 0,.int .u16 0]) (.agg #[.int .u8 5,.string ⟨#[48,120,55,102,46,49]⟩,.int .u32 0,.int .u16 0,.int .u16 0,.int .u16 0,.int .u16 0,.int .u16 0,.int .u16 0,.int .u16 0,.int .u16 0])).run Tryz.prog W = .ok true W:=fun W=>same_lit ⟨5,[48,120,55,102,46,49],0,Sx.z8⟩ _ rfl rfl W
 have he4:∀ W:World,(Op.equalIn 10000 27 (.agg #[.int .u8 4,.string ⟨#[]⟩,.int .u32 0,.int .u16 0,.int .u16 0,.int .u16 0,.int .u16 0,.int .u16 0,.int .u16 0,.int .u16 0,.int .u16 1]) (.agg #[.int .u8 4,.string ⟨#[]⟩,.int .u32 0,.int .u16 0,.int .u16 0,.int .u16 0,.int .u16 0,.int .u16 0,.int .u16 0,.int .u16 0,.int .u16 1])).run Tryz.prog W = .ok true W:=fun W=>same_lit ⟨4,[],0,[0,0,0,0,0,0,0,1]⟩ _ rfl rfl W
 have he5:∀ W:World,(Op.equalIn 10000 27 (.agg #[.int .u8 5,.string ⟨#[97,37,98]⟩,.int .u32 0,.int .u16 0,.int .u16 0,.int .u16 0,.int .u16 0,.int .u16 0,.int .u16 0,.int .u16 0,.int .u16 0]) (.agg #[.int .u8 5,.string ⟨#[97,37,98]⟩,.int .u32 0,.int .u16 0,.int .u16 0,.int .u16 0,.int .u16 0,.int .u16 0,.int .u16 0,.int .u16 0,.int .u16 0])).run Tryz.prog W = .ok true W:=fun W=>same_lit ⟨5,[97,37,98],0,Sx.z8⟩ _ rfl rfl W
 have hB0:=upA w (.cells #[.int .u8 4,.string ⟨#[]⟩,.int .u32 0,.int .u16 0,.int .u16 0,.int .u16 0,.int .u16 0,.int .u16 0,.int .u16 0,.int .u16 0,.int .u16 1] 27)
 have hX0:=HBk.new w 27 ⟨4,[],0,[0,0,0,0,0,0,0,1]⟩
 have HE:=Lib.hid hE
 clear hE
 go_enter Tryz.func8,Tryz.ntmps8
 go_upto_region 2 with fail
 obtain⟨w0,hw0⟩:∃ w0,w.alloc (.cells #[.int .u8 4,.string ⟨#[]⟩,.int .u32 0,.int .u16 0,.int .u16 0,.int .u16 0,.int .u16 0,.int .u16 0,.int .u16 0,.int .u16 0,.int .u16 1] 27)=w0:=⟨_,rfl⟩
 have hX00:HBk w0 w.heap.size 27 ⟨4,[],0,[0,0,0,0,0,0,0,1]⟩:=by rw[<-hw0];exact hX0
 rw[hw0]at hB0 ⊢
 clear hw0 hX0
 go_upto_region 3 with(first
  | (go_at_call 24;((with_reducible refine (HC0.out _ hB0).mono ?_);rintro e w1 ⟨rfl,hb1⟩;have hB1:=hB0.trans (hb1.mono hB0.size)))
  | (go_at_call 24;((with_reducible refine (HC1.out _ hB1).mono ?_);rintro e w2 ⟨rfl,hb2⟩;have hB2:=hB1.trans (hb2.mono hB1.size)))
  | (go_at_call 24;((with_reducible refine (HC2.out _ hB2).mono ?_);rintro e w3 ⟨rfl,hb3⟩;have hB3:=hB2.trans (hb3.mono hB2.size)))
  | (go_at_call 24;((with_reducible refine (HC3.out _ hB3).mono ?_);rintro e w4 ⟨rfl,hb4⟩;have hB4:=hB3.trans (hb4.mono hB3.size)))
  | fail)
 have hY4:HBk w4 w.heap.size 27 ⟨4,[],0,[0,0,0,0,0,0,0,1]⟩:=(((hX00.go hb1).go hb2).go hb3).go hb4
 have hR4:w4.cell? ⟨w.heap.size,0,none⟩=some (.int .u8 4)/\w4.cell? ⟨w.heap.size,1,none⟩=some (.string ⟨#[]⟩)/\w4.cell? ⟨w.heap.size,2,none⟩=some (.int .u32 0)/\w4.cell? ⟨w.heap.size,3,none⟩=some (.int .u16 0)/\w4.cell? ⟨w.heap.size,4,none⟩=some (.int .u16 0)/\w4.cell? ⟨w.heap.size,5,none⟩=some (.int .u16 0)/\w4.cell? ⟨w.heap.size,6,none⟩=some (.int .u16 0)/\w4.cell? ⟨w.heap.size,7,none⟩=some (.int .u16 0)/\w4.cell? ⟨w.heap.size,8,none⟩=some (.int .u16 0)/\w4.cell? ⟨w.heap.size,9,none⟩=some (.int .u16 0)/\w4.cell? ⟨w.heap.size,10,none⟩=some (.int .u16 1):=⟨HBk.cell (k:=0) hY4 rfl,HBk.cell (k:=1) hY4 rfl,HBk.cell (k:=2) hY4 rfl,HBk.cell (k:=3) hY4 rfl,HBk.cell (k:=4) hY4 rfl,HBk.cell (k:=5) hY4 rfl,HBk.cell (k:=6) hY4 rfl,HBk.cell (k:=7) hY4 rfl,HBk.cell (k:=8) hY4 rfl,HBk.cell (k:=9) hY4 rfl,HBk.cell (k:=10) hY4 rfl⟩
 have hR4d:w4.drew.cell? ⟨w.heap.size,0,none⟩=some (.int .u8 4)/\w4.drew.cell? ⟨w.heap.size,1,none⟩=some (.string ⟨#[]⟩)/\w4.drew.cell? ⟨w.heap.size,2,none⟩=some (.int .u32 0)/\w4.drew.cell? ⟨w.heap.size,3,none⟩=some (.int .u16 0)/\w4.drew.cell? ⟨w.heap.size,4,none⟩=some (.int .u16 0)/\w4.drew.cell? ⟨w.heap.size,5,none⟩=some (.int .u16 0)/\w4.drew.cell? ⟨w.heap.size,6,none⟩=some (.int .u16 0)/\w4.drew.cell? ⟨w.heap.size,7,none⟩=some (.int .u16 0)/\w4.drew.cell? ⟨w.heap.size,8,none⟩=some (.int .u16 0)/\w4.drew.cell? ⟨w.heap.size,9,none⟩=some (.int .u16 0)/\w4.drew.cell? ⟨w.heap.size,10,none⟩=some (.int .u16 1):=hR4
 clear hX00 hb1 hb2 hb3 hb4 hB0 hB1 hB2 hB3
 go_region_held3 (fun w'=>w'.cell? ⟨w.heap.size,0,none⟩=some (.int .u8 4)/\w'.cell? ⟨w.heap.size,1,none⟩=some (.string ⟨#[]⟩)/\w'.cell? ⟨w.heap.size,2,none⟩=some (.int .u32 0)/\w'.cell? ⟨w.heap.size,3,none⟩=some (.int .u16 0)/\w'.cell? ⟨w.heap.size,4,none⟩=some (.int .u16 0)/\w'.cell? ⟨w.heap.size,5,none⟩=some (.int .u16 0)/\w'.cell? ⟨w.heap.size,6,none⟩=some (.int .u16 0)/\w'.cell? ⟨w.heap.size,7,none⟩=some (.int .u16 0)/\w'.cell? ⟨w.heap.size,8,none⟩=some (.int .u16 0)/\w'.cell? ⟨w.heap.size,9,none⟩=some (.int .u16 0)/\w'.cell? ⟨w.heap.size,10,none⟩=some (.int .u16 1)) (first|with_reducible exact hR4d|with_reducible exact hR4|with_reducible exact hR5|with_reducible exact hR6|with_reducible exact hR7|with_reducible exact hR8|with_reducible exact hR9|with_reducible exact hR10) (first
  | (go_at_call 24;((with_reducible refine (HC4.out _ hB4.drew).mono ?_);rintro e w5 ⟨rfl,hb5⟩;have hY5:HBk w5 w.heap.size 27 ⟨4,[],0,[0,0,0,0,0,0,0,1]⟩:=HBk.go (a:=w4.drew) hY4 hb5;have hR5:w5.cell? ⟨w.heap.size,0,none⟩=some (.int .u8 4)/\w5.cell? ⟨w.heap.size,1,none⟩=some (.string ⟨#[]⟩)/\w5.cell? ⟨w.heap.size,2,none⟩=some (.int .u32 0)/\w5.cell? ⟨w.heap.size,3,none⟩=some (.int .u16 0)/\w5.cell? ⟨w.heap.size,4,none⟩=some (.int .u16 0)/\w5.cell? ⟨w.heap.size,5,none⟩=some (.int .u16 0)/\w5.cell? ⟨w.heap.size,6,none⟩=some (.int .u16 0)/\w5.cell? ⟨w.heap.size,7,none⟩=some (.int .u16 0)/\w5.cell? ⟨w.heap.size,8,none⟩=some (.int .u16 0)/\w5.cell? ⟨w.heap.size,9,none⟩=some (.int .u16 0)/\w5.cell? ⟨w.heap.size,10,none⟩=some (.int .u16 1):=⟨HBk.cell (k:=0) hY5 rfl,HBk.cell (k:=1) hY5 rfl,HBk.cell (k:=2) hY5 rfl,HBk.cell (k:=3) hY5 rfl,HBk.cell (k:=4) hY5 rfl,HBk.cell (k:=5) hY5 rfl,HBk.cell (k:=6) hY5 rfl,HBk.cell (k:=7) hY5 rfl,HBk.cell (k:=8) hY5 rfl,HBk.cell (k:=9) hY5 rfl,HBk.cell (k:=10) hY5 rfl⟩;have hB5:=hB4.drew.trans (hb5.mono hB4.drew.size)))
  | (go_at_call 24;((with_reducible refine (HC5.out _ hB5).mono ?_);rintro e w6 ⟨rfl,hb6⟩;have hY6:HBk w6 w.heap.size 27 ⟨4,[],0,[0,0,0,0,0,0,0,1]⟩:=HBk.go (a:=w5) hY5 hb6;have hR6:w6.cell? ⟨w.heap.size,0,none⟩=some (.int .u8 4)/\w6.cell? ⟨w.heap.size,1,none⟩=some (.string ⟨#[]⟩)/\w6.cell? ⟨w.heap.size,2,none⟩=some (.int .u32 0)/\w6.cell? ⟨w.heap.size,3,none⟩=some (.int .u16 0)/\w6.cell? ⟨w.heap.size,4,none⟩=some (.int .u16 0)/\w6.cell? ⟨w.heap.size,5,none⟩=some (.int .u16 0)/\w6.cell? ⟨w.heap.size,6,none⟩=some (.int .u16 0)/\w6.cell? ⟨w.heap.size,7,none⟩=some (.int .u16 0)/\w6.cell? ⟨w.heap.size,8,none⟩=some (.int .u16 0)/\w6.cell? ⟨w.heap.size,9,none⟩=some (.int .u16 0)/\w6.cell? ⟨w.heap.size,10,none⟩=some (.int .u16 1):=⟨HBk.cell (k:=0) hY6 rfl,HBk.cell (k:=1) hY6 rfl,HBk.cell (k:=2) hY6 rfl,HBk.cell (k:=3) hY6 rfl,HBk.cell (k:=4) hY6 rfl,HBk.cell (k:=5) hY6 rfl,HBk.cell (k:=6) hY6 rfl,HBk.cell (k:=7) hY6 rfl,HBk.cell (k:=8) hY6 rfl,HBk.cell (k:=9) hY6 rfl,HBk.cell (k:=10) hY6 rfl⟩;have hB6:=hB5.trans (hb6.mono hB5.size)))
  | (go_at_call 25;((with_reducible refine (HC6.out _ hB6).mono ?_);rintro e w7 ⟨rfl,hb7⟩;have hY7:HBk w7 w.heap.size 27 ⟨4,[],0,[0,0,0,0,0,0,0,1]⟩:=HBk.go (a:=w6) hY6 hb7;have hR7:w7.cell? ⟨w.heap.size,0,none⟩=some (.int .u8 4)/\w7.cell? ⟨w.heap.size,1,none⟩=some (.string ⟨#[]⟩)/\w7.cell? ⟨w.heap.size,2,none⟩=some (.int .u32 0)/\w7.cell? ⟨w.heap.size,3,none⟩=some (.int .u16 0)/\w7.cell? ⟨w.heap.size,4,none⟩=some (.int .u16 0)/\w7.cell? ⟨w.heap.size,5,none⟩=some (.int .u16 0)/\w7.cell? ⟨w.heap.size,6,none⟩=some (.int .u16 0)/\w7.cell? ⟨w.heap.size,7,none⟩=some (.int .u16 0)/\w7.cell? ⟨w.heap.size,8,none⟩=some (.int .u16 0)/\w7.cell? ⟨w.heap.size,9,none⟩=some (.int .u16 0)/\w7.cell? ⟨w.heap.size,10,none⟩=some (.int .u16 1):=⟨HBk.cell (k:=0) hY7 rfl,HBk.cell (k:=1) hY7 rfl,HBk.cell (k:=2) hY7 rfl,HBk.cell (k:=3) hY7 rfl,HBk.cell (k:=4) hY7 rfl,HBk.cell (k:=5) hY7 rfl,HBk.cell (k:=6) hY7 rfl,HBk.cell (k:=7) hY7 rfl,HBk.cell (k:=8) hY7 rfl,HBk.cell (k:=9) hY7 rfl,HBk.cell (k:=10) hY7 rfl⟩;have hB7:=hB6.trans (hb7.mono hB6.size)))
  | (go_at_call 25;((with_reducible refine (HC7.out _ hB7).mono ?_);rintro e w8 ⟨rfl,hb8⟩;have hY8:HBk w8 w.heap.size 27 ⟨4,[],0,[0,0,0,0,0,0,0,1]⟩:=HBk.go (a:=w7) hY7 hb8;have hR8:w8.cell? ⟨w.heap.size,0,none⟩=some (.int .u8 4)/\w8.cell? ⟨w.heap.size,1,none⟩=some (.string ⟨#[]⟩)/\w8.cell? ⟨w.heap.size,2,none⟩=some (.int .u32 0)/\w8.cell? ⟨w.heap.size,3,none⟩=some (.int .u16 0)/\w8.cell? ⟨w.heap.size,4,none⟩=some (.int .u16 0)/\w8.cell? ⟨w.heap.size,5,none⟩=some (.int .u16 0)/\w8.cell? ⟨w.heap.size,6,none⟩=some (.int .u16 0)/\w8.cell? ⟨w.heap.size,7,none⟩=some (.int .u16 0)/\w8.cell? ⟨w.heap.size,8,none⟩=some (.int .u16 0)/\w8.cell? ⟨w.heap.size,9,none⟩=some (.int .u16 0)/\w8.cell? ⟨w.heap.size,10,none⟩=some (.int .u16 1):=⟨HBk.cell (k:=0) hY8 rfl,HBk.cell (k:=1) hY8 rfl,HBk.cell (k:=2) hY8 rfl,HBk.cell (k:=3) hY8 rfl,HBk.cell (k:=4) hY8 rfl,HBk.cell (k:=5) hY8 rfl,HBk.cell (k:=6) hY8 rfl,HBk.cell (k:=7) hY8 rfl,HBk.cell (k:=8) hY8 rfl,HBk.cell (k:=9) hY8 rfl,HBk.cell (k:=10) hY8 rfl⟩;have hB8:=hB7.trans (hb8.mono hB7.size)))
  | (go_at_call 25;((with_reducible refine (HC8.out _ hB8).mono ?_);rintro e w9 ⟨rfl,hb9⟩;have hY9:HBk w9 w.heap.size 27 ⟨4,[],0,[0,0,0,0,0,0,0,1]⟩:=HBk.go (a:=w8) hY8 hb9;have hR9:w9.cell? ⟨w.heap.size,0,none⟩=some (.int .u8 4)/\w9.cell? ⟨w.heap.size,1,none⟩=some (.string ⟨#[]⟩)/\w9.cell? ⟨w.heap.size,2,none⟩=some (.int .u32 0)/\w9.cell? ⟨w.heap.size,3,none⟩=some (.int .u16 0)/\w9.cell? ⟨w.heap.size,4,none⟩=some (.int .u16 0)/\w9.cell? ⟨w.heap.size,5,none⟩=some (.int .u16 0)/\w9.cell? ⟨w.heap.size,6,none⟩=some (.int .u16 0)/\w9.cell? ⟨w.heap.size,7,none⟩=some (.int .u16 0)/\w9.cell? ⟨w.heap.size,8,none⟩=some (.int .u16 0)/\w9.cell? ⟨w.heap.size,9,none⟩=some (.int .u16 0)/\w9.cell? ⟨w.heap.size,10,none⟩=some (.int .u16 1):=⟨HBk.cell (k:=0) hY9 rfl,HBk.cell (k:=1) hY9 rfl,HBk.cell (k:=2) hY9 rfl,HBk.cell (k:=3) hY9 rfl,HBk.cell (k:=4) hY9 rfl,HBk.cell (k:=5) hY9 rfl,HBk.cell (k:=6) hY9 rfl,HBk.cell (k:=7) hY9 rfl,HBk.cell (k:=8) hY9 rfl,HBk.cell (k:=9) hY9 rfl,HBk.cell (k:=10) hY9 rfl⟩;have hB9:=hB8.trans (hb9.mono hB8.size)))
  | (go_at_call 24;((with_reducible refine (HC9.out _ hB9).mono ?_);rintro e w10 ⟨rfl,hb10⟩;have hY10:HBk w10 w.heap.size 27 ⟨4,[],0,[0,0,0,0,0,0,0,1]⟩:=HBk.go (a:=w9) hY9 hb10;have hR10:w10.cell? ⟨w.heap.size,0,none⟩=some (.int .u8 4)/\w10.cell? ⟨w.heap.size,1,none⟩=some (.string ⟨#[]⟩)/\w10.cell? ⟨w.heap.size,2,none⟩=some (.int .u32 0)/\w10.cell? ⟨w.heap.size,3,none⟩=some (.int .u16 0)/\w10.cell? ⟨w.heap.size,4,none⟩=some (.int .u16 0)/\w10.cell? ⟨w.heap.size,5,none⟩=some (.int .u16 0)/\w10.cell? ⟨w.heap.size,6,none⟩=some (.int .u16 0)/\w10.cell? ⟨w.heap.size,7,none⟩=some (.int .u16 0)/\w10.cell? ⟨w.heap.size,8,none⟩=some (.int .u16 0)/\w10.cell? ⟨w.heap.size,9,none⟩=some (.int .u16 0)/\w10.cell? ⟨w.heap.size,10,none⟩=some (.int .u16 1):=⟨HBk.cell (k:=0) hY10 rfl,HBk.cell (k:=1) hY10 rfl,HBk.cell (k:=2) hY10 rfl,HBk.cell (k:=3) hY10 rfl,HBk.cell (k:=4) hY10 rfl,HBk.cell (k:=5) hY10 rfl,HBk.cell (k:=6) hY10 rfl,HBk.cell (k:=7) hY10 rfl,HBk.cell (k:=8) hY10 rfl,HBk.cell (k:=9) hY10 rfl,HBk.cell (k:=10) hY10 rfl⟩;have hB10:=hB9.trans (hb10.mono hB9.size)))
  | fail)
 clear hY4 hY5 hY6 hY7 hY8 hY9 hY10 hR4 hR4d hR5 hR6 hR7 hR8 hR9 hR10 hb5 hb6 hb7 hb8 hb9 hb10 hB4 hB5 hB6 hB7 hB8 hB9
 go_upto_region 4 with fail
 go_wp2_with(first
  | (go_at_call 25;((with_reducible refine (HC10.out _ hB10).mono ?_);rintro e w11 ⟨rfl,hb11⟩;have hB11:=hB10.trans (hb11.mono hB10.size)))
  | (go_at_call 25;((with_reducible refine (HC11.out _ hB11).mono ?_);rintro e w12 ⟨rfl,hb12⟩;have hB12:=hB11.trans (hb12.mono hB11.size)))
  | (go_at_call 25;((with_reducible refine (HC12.out _ hB12).mono ?_);rintro e w13 ⟨rfl,hb13⟩;have hB13:=hB12.trans (hb13.mono hB12.size)))
  | fail)
 go_ret
 exact⟨rfl,hB13⟩
end Go.Proofs.YtediahdedmkehaaGreatDoor.Hst
namespace Go.Proofs.YtediahdedmkehaaGreatDoor.Sx
open Go.RowKit
section
variable {x:List Nat} (h8:x.length=8) (h16:∀ m∈x,m<65536)
include h16
include h8
end
def hexc:List UInt8:=[48,49,50,51,52,53,54,55,56,57,97,98,99,100,101,102,65,66,67,68,69,70,58]
theorem ok_fin:∀ c:Fin 256,(dv (UInt8.ofNat c.1)<16∨UInt8.ofNat c.1=46∨UInt8.ofNat c.1=58)->(hexc++[46]).contains (UInt8.ofNat c.1)=true:=by decide +kernel
theorem ok_byte(c:UInt8)(h:dv c<16∨c=46∨c=58):(hexc++[46]).contains c=true:=by
 have:=ok_fin ⟨c.toNat,c.toNat_lt⟩
 simp only[UInt8.ofNat_toNat]at this
 exact this h
theorem prt_mem{l:List UInt8}{c:UInt8}(hc:c∈l):c=58∨∃ p∈prt l,c∈p:=by
 unfold prt
 rw[if_neg (fun e=>by rw[e]at hc;simp at hc)]
 exact spl_mem l c hc
theorem rdt_mem{emb:Bool}{l:List UInt8}{x:List Nat}(h:rdt emb l=some x):∀ c∈l,dv c<16∨c=46∨c=58:=fun c hc=>by
 rcases prt_mem hc with e|⟨p,hp,hcp⟩
 ·exact .inr (.inr e)
 ·rcases ((rd_some emb (rdt_some h).1).2 p hp).2 c hcp with e|e
  ·exact .inl e
  ·exact .inr (.inl e)
theorem prs_cut{l:List UInt8}{x:List Nat}(h:prs l=some x):(cutg [58,58] l=none/\∃ y,rdt true l=some y)∨∃ p y z,cutg [58,58] l=some p/\rdt false p.1=some y/\rdt true p.2=some z:=by
 unfold prs at h
 split at h
 ·rename_i hc
  split at h
  ·rename_i y hy
   exact .inl ⟨hc,y,hy⟩
  ·cases h
 ·rename_i p hc
  split at h
  ·rename_i y z hy hz
   exact .inr ⟨p,y,z,hc,hy,hz⟩
  ·cases h
theorem prs_mem{l:List UInt8}{x:List Nat}(h:prs l=some x):∀ c∈l,(hexc++[46]).contains c=true:=fun c hc=>ok_byte c (by
 rcases prs_cut h with ⟨_,y,hy⟩|⟨p,y,z,hp,hy,hz⟩
 ·exact rdt_mem hy c hc
 ·rw[cutg_app hp]at hc
  rcases List.mem_append.1 hc with h1|h1
  ·rcases List.mem_append.1 h1 with h2|h2
   ·exact rdt_mem hy c h2
   ·right;right;simpa using h2
  ·exact rdt_mem hz c h1)
end Go.Proofs.YtediahdedmkehaaGreatDoor.Sx
namespace Go.Proofs.YtediahdedmkehaaGreatDoor.Hst
open Go.RowKit Utf Remap Norm Pn Puny
def ndB (b:UInt8):Bool:=b==46||decide (48<=b.toNat/\b.toNat<=57)
def hxB (b:UInt8):Bool:=(Sx.hexc++[46]).contains b
theorem byte_tab(P:UInt8->Bool)(h:∀ k:Fin 256,P (UInt8.ofNat k.1)=true)(b:UInt8):P b=true:=by
 have:=h ⟨b.toNat,b.toNat_lt⟩
 rwa [show UInt8.ofNat (⟨b.toNat,b.toNat_lt⟩:Fin 256).1=b from UInt8.ofNat_toNat]at this
theorem ndB_low(b:UInt8)(h:ndB b=true):low (b.toNat:Int)=true/\b.toNat≠37/\b.toNat≠120/\fdB b=false/\b.toNat≠91/\forb (b.toNat:Int)=false/\ctl (b.toNat:Int)=false:=by
 have:=byte_tab (fun b => !(ndB b)||(low (b.toNat:Int)&&b.toNat != 37&&b.toNat != 120 && !(fdB b)&&b.toNat != 91 && !(forb (b.toNat:Int)) && !(ctl (b.toNat:Int)))) (by decide +kernel) b
 simpa[h,and_assoc] using this
def lwB (b:UInt8):Bool:=low (b.toNat:Int)&&b.toNat != 37&&b.toNat != 120
theorem bi_low{s:List UInt8}(h:∀ b∈s,lwB b=true):∀ x∈bi s,low x=true:=by
 intro x hx
 obtain⟨b,hb,rfl⟩:=List.mem_map.1 hx
 have:=h b hb
 simp only[lwB,Bool.and_eq_true]at this
 exact this.1.1
theorem bi_toN(s:List UInt8):ofN (toN (bi s))=bi s:=toN_ofN (fun x hx=>by obtain⟨b,_,rfl⟩:=List.mem_map.1 hx;omega)
theorem byN_bi(s:List UInt8):byN (toN (bi s))=s:=by
 unfold byN toN bi
 rw[List.map_map,List.map_map]
 refine (List.map_congr_left fun b _ => ?_).trans (List.map_id' s)
 simp
theorem aL_nox{p:List Nat}(h:∀ x∈p,x<128/\x≠120):aL (ofN p)=false:=by
 unfold aL
 rw[runes_asc (fun x hx=>(h x hx).1)]
 suffices hs:pfx (p.map UInt8.ofNat) [120,110,45,45]=false by rw[hs,Bool.and_false]
 unfold pfx
 rw[decide_eq_false_iff_not]
 intro e
 cases p with
 | nil=>simp at e
 | cons y p =>
  have e3:UInt8.ofNat y=120:=(List.cons.inj e).1
  have e4:=congrArg UInt8.toNat e3
  rw[UInt8.toNat_ofNat']at e4
  have e5:(120:UInt8).toNat=120:=rfl
  have:=h y (List.mem_cons_self ..)
  omega
theorem dl_bi(s:List UInt8):dl (strOfNums (bi s))=s:=by
 have h:=nums_bi (bi s) (fun x hx=>by
  obtain⟨b,_,rfl⟩:=List.mem_map.1 hx
  have:=b.toNat_lt
  omega)
 have h2:=congrArg (fun l=>byN (toN l)) h
 simp only[byN_bi]at h2
 exact h2
theorem tA_lw{s:List UInt8}(h:∀ b∈s,lwB b=true)(h0:s≠[]):tA (bi s)=some s:=by
 have hx:∀ x∈toN (bi s),low (x:Int)=true/\x<128/\x≠120:=by
  intro x hx
  obtain⟨y,hy,rfl⟩:=List.mem_map.1 hx
  obtain⟨b,hb,rfl⟩:=List.mem_map.1 hy
  have hl:=h b hb
  simp only[lwB,Bool.and_eq_true,bne_iff_ne,ne_eq]at hl
  have h2:=hl.1.1
  simp only[low,decide_eq_true_eq]at h2
  rw[Int.toNat_natCast]
  exact⟨hl.1.1,by omega,hl.2⟩
 have ht:=low_tA (l:=toN (bi s)) (fun x hm=>(hx x hm).1) (fun e=>h0 (by have:=congrArg List.length e;simpa[toN,bi] using this)) (fun p hp=>aL_nox fun y hy=>(hx y ((lab_mem hp).1 y hy).1).2)
 rw[bi_toN,byN_bi]at ht
 exact ht
theorem dcd_lw{s:List UInt8}(h:∀ b∈s,lwB b=true):dcd (bi s)=bi s:=by
 refine dcd_plain (fun x hx => ?_) (fun hx => ?_)
 ·have:=bi_low h x hx
  simp only[low,decide_eq_true_eq]at this
  omega
 ·obtain⟨b,hb,e⟩:=List.mem_map.1 hx
  have hl:=h b hb
  simp only[lwB,Bool.and_eq_true,bne_iff_ne,ne_eq]at hl
  omega
theorem bi_head{s:List UInt8}(h:∀ b∈s,b≠91):¬ (bi s≠[]/\(bi s)[0]! = 91):=by
 rintro ⟨_,h2⟩
 cases s with
 | nil=>exact absurd h2 (by decide)
 | cons b s =>
  have h3:(b.toNat:Int)=91:=h2
  refine h b (List.mem_cons_self ..) (UInt8.toNat_inj.1 ?_)
  have:(91:UInt8).toNat=91:=rfl
  omega
theorem hP_num{s:List UInt8}{x:Nat}(h:∀ b∈s,ndB b=true)(h0:s≠[])(he:Fou.ends s=true)(ha:Fou.ans s=some x):hP (bi s) true = .inr ⟨3,[],x,Sx.z8⟩:=by
 have hlw:∀ b∈s,lwB b=true:=fun b hb=>by
  have:=ndB_low b (h b hb)
  simp[lwB,this.1,this.2.1,this.2.2.1]
 have hf:s.any fdB=false:=by
  rw[List.any_eq_false]
  exact fun b hb=>by simp[(ndB_low b (h b hb)).2.2.2.1]
 unfold hP nmd
 rw[if_neg (bi_head fun b hb e=>(ndB_low b (h b hb)).2.2.2.2.1 (by rw[e];rfl)),if_pos rfl,dcd_lw hlw,tA_lw hlw h0]
 show nmH (if s.any fdB=true then .inl 32 else if Fou.ends s=false then .inr (.inl s) else pfo (Fou.ans s))=_
 rw[hf,if_neg (by decide),he,if_neg (by decide),ha]
 rfl
theorem hP_opq{s:List UInt8}(h:∀ b∈s,ndB b=true)(h0:s≠[]):hP (bi s) false = .inr ⟨5,s,0,Sx.z8⟩:=by
 have hn:bi s≠[]:=fun e=>h0 (by have:=congrArg List.length e;simpa[bi] using this)
 have hf:(bi s).any forb=false:=by
  rw[List.any_eq_false]
  intro x hx
  obtain⟨b,hb,rfl⟩:=List.mem_map.1 hx
  simp[(ndB_low b (h b hb)).2.2.2.2.2.1]
 have hp:penc (bi s)=bi s:=by
  clear h0 hn hf
  induction s with
  | nil=>rfl
  | cons b s ih =>
   have hb:=(ndB_low b (h b (List.mem_cons_self ..))).2.2.2.2.2.2
   have ih:=ih fun c hc=>h c (List.mem_cons_of_mem _ hc)
   show pOne (b.toNat:Int)++penc (bi s)=(b.toNat:Int)::bi s
   rw[ih,pOne,if_neg (by rw[hb];decide)]
   rfl
 unfold hP
 rw[if_neg (bi_head fun b hb e=>(ndB_low b (h b hb)).2.2.2.2.1 (by rw[e];rfl)),if_neg (by decide),if_neg hn]
 unfold opH
 rw[hf,if_neg (by decide),hp,dl_bi]
theorem dgB_nd:∀ d:Fin 10,ndB (Fou.dgB d.1)=true:=by decide +kernel
theorem shw_nd(x:Nat):∀ b∈Fou.shw x,ndB b=true:=by
 intro b hb
 rcases join_mem _ b hb with rfl|⟨p,hp,hb⟩
 ·rfl
 ·have hd:∃ j,p=Fou.digs 10 (Fou.byt x j):=by
   simp only[Fou.bts,List.mem_cons,List.mem_nil_iff,or_false]at hp
   rcases hp with h|h|h|h
   ·exact⟨0,h⟩
   ·exact⟨1,h⟩
   ·exact⟨2,h⟩
   ·exact⟨3,h⟩
  obtain⟨j,rfl⟩:=hd
  obtain⟨d,hd,rfl⟩:=Fou.digs_mem (by decide) _ b hb
  exact dgB_nd ⟨d,hd⟩
theorem shw_ne(x:Nat):Fou.shw x≠[]:=fun h=>by
 have h2:=Fou.ends_shw x
 rw[h]at h2
 exact absurd h2 (by decide +kernel)
theorem dot_nd{s:List UInt8}(h:∀ b∈s,ndB b=true):∀ b∈s++[46],ndB b=true:=by
 intro b hb
 rcases List.mem_append.1 hb with h2|h2
 ·exact h b h2
 ·rw[List.mem_singleton.1 h2];rfl
theorem hP_four{x:Nat}(hx:x<4294967296):hP (bi (Fou.shw x)) true = .inr ⟨3,[],x,Sx.z8⟩:=hP_num (shw_nd x) (shw_ne x) (Fou.ends_shw x) (Fou.ans_shw hx)
theorem hP_four_dot{x:Nat}(hx:x<4294967296):hP (bi (Fou.shw x++[46])) true = .inr ⟨3,[],x,Sx.z8⟩ :=
 hP_num (dot_nd (shw_nd x)) (by simp) (Fou.ends_shw_dot x) (Fou.ans_shw_dot hx)
theorem hP_four_name(x:Nat):hP (bi (Fou.shw x)) false = .inr ⟨5,Fou.shw x,0,Sx.z8⟩:=hP_opq (shw_nd x) (shw_ne x)
theorem bi_app(s t:List UInt8):bi (s++t)=bi s++bi t:=by simp[bi]
theorem hP_brack{t:List UInt8}(ht:∀ b∈t,b.toNat<128)(c:UInt8)(sp:Bool):hP (bi (91::t++[c])) sp=if c=93 then brH (Sx.prs t) else .inl 31:=by
 have e:bi (91::t++[c])=91::(bi t++[(c.toNat:Int)]):=by rw[List.cons_append];show _::bi (t++[c])=_;rw[bi_app];rfl
 have hl:(bi (91::t++[c])).length=t.length+2:=by simp[bi]
 have hlast:(bi (91::t++[c]))[(bi (91::t++[c])).length-1]! = (c.toNat:Int):=by
  rw[hl,e,show t.length+2-1=t.length+1 from rfl,getElem!_pos _ _ (by simp[bi])]
  simp[bi]
 unfold hP
 rw[if_pos ⟨by rw[e];simp,by rw[e];rfl⟩]
 unfold brv
 rw[hlast,hl]
 by_cases hc:c=93
 ·subst hc
  rw[if_pos (show ((93:UInt8).toNat:Int)=93 from rfl),if_pos (show (93:UInt8)=93 from rfl),e]
  have h2:((91::(bi t++[((93:UInt8).toNat:Int)])).drop 1).take (t.length+2-2)=bi t:=by
   simp[bi]
  rw[h2,enc_low (bi_asc ht),dl_bi]
 ·rw[if_neg (fun h=>hc (UInt8.toNat_inj.1 (by have:(93:UInt8).toNat=93:=rfl;omega))),if_neg hc]
  rfl
theorem hxB_tab(b:UInt8)(h:hxB b=true∨b=93):b.toNat<128/\b≠91:=by
 have:=byte_tab (fun b => !(hxB b||b==93)||(decide (b.toNat<128)&&b != 91)) (by decide +kernel) b
 have h2:(hxB b||b==93)=true:=by rcases h with h|h<;>simp[h]
 simpa[h2] using this
def lxB (b:UInt8):Bool:=decide (b∈([48,49,50,51,52,53,54,55,56,57,97,98,99,100,101,102,58,46,93]:List UInt8))
theorem lxB_lw(b:UInt8)(h:lxB b=true):lwB b=true/\b≠91:=by
 have:=byte_tab (fun b => !(lxB b)||(lwB b&&b != 91)) (by decide +kernel) b
 simpa[h] using this
theorem hP_bare{t:List UInt8}(h:∀ b∈t,lxB b=true)(sp:Bool):hP (bi (t++[93])) sp = .inl 32:=by
 have h':∀ b∈t++[93],lxB b=true:=by
  intro b hb
  rcases List.mem_append.1 hb with h2|h2
  ·exact h b h2
  ·rw[List.mem_singleton.1 h2];rfl
 have hlw:∀ b∈t++[93],lwB b=true:=fun b hb=>(lxB_lw b (h' b hb)).1
 have hn:bi (t++[93])≠[]:=by simp[bi]
 unfold hP
 rw[if_neg (bi_head fun b hb=>(lxB_lw b (h' b hb)).2)]
 cases sp with
 | true =>
  rw[if_pos rfl]
  unfold nmd
  rw[dcd_lw hlw,tA_lw hlw (by simp)]
  show nmH (if (t++[93]).any fdB=true then .inl 32 else if Fou.ends (t++[93])=false then .inr (.inl (t++[93])) else pfo (Fou.ans (t++[93])))=_
  rw[if_pos (List.any_eq_true.2 ⟨93,by simp,by decide +kernel⟩)]
  rfl
 | false =>
  rw[if_neg (by decide),if_neg hn]
  unfold opH
  rw[if_pos (List.any_eq_true.2 ⟨93,by simp[bi],by decide +kernel⟩)]
theorem prs_93(t:List UInt8):Sx.prs (t++[93])=none:=by
 cases h:Sx.prs (t++[93]) with
 | none=>rfl
 | some x=>exact absurd (Sx.prs_mem h 93 (by simp)) (by decide)
theorem prs_hx{t:List UInt8}{x:List Nat}(h:Sx.prs t=some x):∀ b∈t,b.toNat<128/\b≠91:=fun b hb=>hxB_tab b (.inl (Sx.prs_mem h b hb))
theorem hP_six{t:List UInt8}{x:List Nat}(h:Sx.prs t=some x)(sp:Bool):hP (bi (91::t++[93])) sp = .inr ⟨4,[],0,x⟩:=by
 rw[hP_brack (fun b hb=>(prs_hx h b hb).1),if_pos rfl,h]
 rfl
theorem hP_six_more{t:List UInt8}{x:List Nat}(h:Sx.prs t=some x)(c:UInt8)(sp:Bool):hP (bi (91::(t++[93])++[c])) sp = .inl 31:=by
 rw[hP_brack (fun b hb=>by
  rcases List.mem_append.1 hb with h2|h2
  ·exact (prs_hx h b h2).1
  ·rw[List.mem_singleton.1 h2];decide),prs_93]
 by_cases hc:c=93
 ·rw[if_pos hc];rfl
 ·rw[if_neg hc]
theorem hP_six_less{t:List UInt8}{x:List Nat}(h:Sx.prs t=some x)(h0:t≠[])(sp:Bool):hP (bi (91::t)) sp = .inl 31:=by
 have e:t=t.dropLast++[t.getLast h0]:=(List.dropLast_concat_getLast h0).symm
 have hm:=(Sx.prs_mem h (t.getLast h0) (List.getLast_mem h0))
 have hne:t.getLast h0≠93:=fun e2=>by rw[e2]at hm;exact absurd hm (by decide)
 rw[e,<-List.cons_append,hP_brack (fun b hb=>(prs_hx h b (by rw[e];exact List.mem_append_left _ hb)).1),if_neg hne]
theorem bs_dl(s:ByteArray):Fou.bs (dl s)=s:=by cases s;simp[Fou.bs,dl]
theorem dl_bs(l:List UInt8):dl (Fou.bs l)=l:=by simp[Fou.bs,dl]
theorem dl_add(p q:ByteArray):dl (p++q)=dl p++dl q:=by rw[dl,ByteArray.data_append,Array.toList_append]
theorem size_dl(s:ByteArray):s.size=(dl s).length:=by rw[dl,Array.length_toList];rfl
theorem reads_as(s:ByteArray)(sp:Bool)(h:Ho)(hp:hP (bi (dl s)) sp = .inr h)(ha:∀ b∈dl s,b.toNat<128)(hs:s.size<=300)(w:World)(hE:Sx.Env w):Calls Tryz.prog 24 #[.string s,.bool sp] w (fun e w'=>e = .returned h.v/\Below w.heap.size w w'):=by
 have:=reads_any s ha hs sp w hE
 rw[hp]at this
 exact this
theorem fails_as(s:ByteArray)(sp:Bool)(x:Int)(hp:hP (bi (dl s)) sp = .inl x)(ha:∀ b∈dl s,b.toNat<128)(hs:s.size<=300)(w:World)(hE:Sx.Env w):Calls Tryz.prog 25 #[.string s,.bool sp] w (fun e w'=>e = .returned (.int .i64 x)/\Below w.heap.size w w'):=by
 have:=fails_any s ha hs sp w hE
 rw[hp]at this
 exact this
theorem dgS_lx:∀ d:Fin 16,lxB (Sx.dgB d.1)=true:=by decide +kernel
theorem shw_lx(x:List Nat)(k n:Nat):∀ c∈Sx.shw x k n,lxB c=true:=by
 have hd:∀ l:List Nat,∀ c∈Sx.jn (Sx.hx l),lxB c=true:=by
  intro l c hc
  rcases Sx.jn_mem (Sx.hx l) c hc with h|⟨p,hp,h⟩
  ·subst h;decide
  ·obtain⟨m,_,rfl⟩:=List.mem_map.1 hp
   obtain⟨d,hd,rfl⟩:=Sx.digs_mem (by decide) m c h
   exact dgS_lx ⟨d,hd⟩
 intro c hc
 unfold Sx.shw at hc
 split at hc
 ·exact hd _ c hc
 ·rcases List.mem_append.1 hc with h|h
  ·exact hd _ c h
  ·simp only[List.mem_cons]at h
   rcases h with rfl|rfl|h
   ·decide
   ·decide
   ·exact hd _ c h
theorem fail_two:hP (bi (dl ⟨#[91,93]⟩)) true = .inl 31:=by decide +kernel
theorem fail_one:hP (bi (dl ⟨#[91]⟩)) false = .inl 31:=by decide +kernel
theorem lx_128{t:List UInt8}(h:∀ b∈t,lxB b=true):∀ b∈t,b.toNat<128:=fun b hb=>by
 have:=(lxB_lw b (h b hb)).1
 simp only[lwB,low,Bool.and_eq_true,decide_eq_true_eq]at this
 omega
theorem conv_b(d:Nat)(w:World):(convert 41 9 (.slice (some ⟨w.heap.size,0,none⟩) 1 1)).run Tryz.prog (w.alloc (.cells #[.int .u8 (d:Int)] 5)) = .ok (.string (Fou.bs [UInt8.ofNat d])) (w.alloc (.cells #[.int .u8 (d:Int)] 5)):=by
 have h:=run_convert_bytes_arg (w.alloc (.cells #[.int .u8 (d:Int)] 5)) 41 5 Tryz.underlying41 Tryz.underlying5 w.heap.size 0 1 1 [(d:Int)] (by simp) (fun i hi=>by
  obtain rfl:i=0:=by omega
  rw[World.cell?_alloc_new]
  rfl) 9 Tryz.underlying9
 rw[h]
 congr 2
theorem lt_of_cell'{w:World}{b o:Nat}{v:Value}(h:w.cell? ⟨b,o,none⟩=some v):b<w.heap.size:=by
 unfold World.cell? at h
 by_cases hb:b<w.heap.size
 ·exact hb
 ·simp[Array.getElem?_eq_none (Nat.le_of_not_lt hb)]at h
def HCells (w:World) (B:Nat):Prop:=w.cell? ⟨B,0,none⟩=some (.bool true)/\w.cell? ⟨B,1,none⟩=some (.bool false)
theorem HCells.new(w:World)(T:TypeId):HCells (w.alloc (.cells #[.bool true,.bool false] T)) w.heap.size:=by
 have hn:=World.alloc_heap_new w (.cells #[.bool true,.bool false] T)
 exact⟨by rw[cell_of_row _ _ 0 _ _ _ hn];rfl,by rw[cell_of_row _ _ 1 _ _ _ hn];rfl⟩
theorem HCells.lt{w:World}{B:Nat}(h:HCells w B):B<w.heap.size:=lt_of_cell' h.1
theorem HCells.go{a b:World}{B:Nat}(h:HCells a B)(hB:Below a.heap.size a b):HCells b B:=⟨(hB.cell (p:=⟨B,0,none⟩) h.lt).trans h.1,(hB.cell (p:=⟨B,1,none⟩) h.lt).trans h.2⟩
theorem addresses_any(x:Nat)(y:List Nat)(c:Int)(w:World)(hx:x<4294967296)(hy8:y.length=8)(hy16:∀ m∈y,m<65536)(c0:0<=c)(c1:c<=255)(hE:Sx.Env w) :
  Calls Tryz.prog 6 #[.int .u32 (x:Int),Sx.av y,.int .u8 c] w (Says true w):=by
 obtain⟨k,n,hr⟩:=Sx.IsRun.exists y
 have hprs:=Sx.prs_shw hy8 hy16 hr
 have hlx:=shw_lx y k n
 obtain⟨hl1,hl2⟩:=Sx.shw_len hy8 hy16 hr
 have h6s:=sixS_is hr
 have h4len:=Fou.shw_len x
 have hB0:=upA w (.cells (Sx.cu y).toArray 25)
 have hya:=Sx.Hx.new w y
 obtain⟨w1,hw1⟩:∃ w1,w.alloc (.cells (Sx.cu y).toArray 25)=w1:=⟨_,rfl⟩
 rw[hw1]at hya hB0
 have hE1:=hE.go hB0
 have HE:=Lib.hid (fun W (h:Below w1.heap.size w1 W)=>hE1.go h)
 have HSF:=Lib.hid (fun W (h:Below w1.heap.size w1 W)=>Fou.Show_any x hx W (HE.out W h).pow)
 have HSX:=Lib.hid (fun W (h:Below w1.heap.size w1 W)=>Sx.Show_any y hy8 hy16 k n hr W (HE.out W h))
 obtain⟨t,ht⟩:∃ t,Sx.shw y k n=t:=⟨_,rfl⟩
 rw[ht]at hprs hlx hl1 hl2 HSX h6s
 have ht0:t≠[]:=fun e=>by rw[e]at hl1;simp at hl1
 obtain⟨f,hf⟩:∃ f,Fou.bs (Fou.shw x)=f:=⟨_,rfl⟩
 obtain⟨s,hs⟩:∃ s,Fou.bs t=s:=⟨_,rfl⟩
 have hdf:dl f=Fou.shw x:=by rw[<-hf];exact dl_bs _
 have hds:dl s=t:=by rw[<-hs];exact dl_bs _
 unfold Fou.Texts at HSF
 unfold Sx.Texts at HSX
 rw[hf]at HSF
 rw[show Sx.bs t=s from hs]at HSX
 have HY:=Lib.hid hya
 have HB0:=Lib.hid hB0
 have ha4:∀ b∈dl f,b.toNat<128:=by
  rw[hdf]
  intro b hb
  have:=(ndB_low b (shw_nd x b hb)).1
  simp only[low,decide_eq_true_eq]at this
  omega
 have hz4:f.size<=15:=by rw[size_dl,hdf];exact h4len
 have hd5:dl (f++⟨#[46]⟩)=Fou.shw x++[46]:=by rw[dl_add,hdf]
 have HR1:=Lib.hid (fun W h=>reads_as f true ⟨3,[],x,Sx.z8⟩ (by rw[hdf];exact hP_four hx) ha4 (by omega) W (HE.out W h))
 have HR2:=Lib.hid (fun W h=>reads_as f false ⟨5,Fou.shw x,0,Sx.z8⟩ (by rw[hdf];exact hP_four_name x) ha4 (by omega) W (HE.out W h))
 have HR3:=Lib.hid (fun W h=>reads_as (f++⟨#[46]⟩) true ⟨3,[],x,Sx.z8⟩ (by rw[hd5];exact hP_four_dot hx) (by
  rw[hd5]
  intro b hb
  have:=(ndB_low b (dot_nd (shw_nd x) b hb)).1
  simp only[low,decide_eq_true_eq]at this
  omega) (by rw[size_dl,hd5,List.length_append,List.length_singleton];omega) W (HE.out W h))
 obtain⟨q,hq⟩:∃ q,(⟨#[91]⟩:ByteArray)++s++⟨#[93]⟩=q:=⟨_,rfl⟩
 have hdq:dl q=91::t++[93]:=by rw[<-hq,dl_add,dl_add,hds];rfl
 have hzq:q.size=t.length+2:=by rw[size_dl,hdq];simp
 have haq:∀ b∈dl q,b.toNat<128:=by
  rw[hdq]
  intro b hb
  simp only[List.cons_append,List.mem_cons,List.mem_append,List.mem_nil_iff,or_false]at hb
  rcases hb with rfl|hb|rfl
  ·decide
  ·exact lx_128 hlx b hb
  ·decide
 have HR6:=Lib.hid (fun sp W h=>reads_as q sp ⟨4,[],0,y⟩ (by rw[hdq];exact hP_six hprs sp) haq (by omega) W (HE.out W h))
 have HS6:=Lib.hid (fun W h=>HShow_any ⟨4,[],0,y⟩ ⟨(by decide:(4:Nat)<256),(by decide:(0:Nat)<4294967296),hy8,hy16⟩ W (HE.out W h) (HE.out W h).pow)
 have HS4:=Lib.hid (fun W h=>HShow_any ⟨3,[],x,Sx.z8⟩ ⟨(by decide:(3:Nat)<256),hx,rfl,(by decide:∀ m∈Sx.z8,m<65536)⟩ W (HE.out W h) (HE.out W h).pow)
 unfold Gvs at HS6 HS4
 rw[show Fou.bs (hS8 ⟨4,[],0,y⟩)=q by
  have:hS8 ⟨4,[],0,y⟩=dl q:=by rw[hdq];show [91]++sixS y++[93]=_;rw[h6s];rfl
  rw[this,bs_dl]]at HS6
 rw[show Fou.bs (hS8 ⟨3,[],x,Sx.z8⟩)=f from hf]at HS4
 have HF1:=Lib.hid (fun sp W h (q':ByteArray) (e:dl q'=91::t)=>fails_as q' sp 31 (by rw[e];exact hP_six_less hprs ht0 sp) (by
  rw[e]
  intro b hb
  rcases List.mem_cons.1 hb with rfl|hb
  ·decide
  ·exact lx_128 hlx b hb) (by rw[size_dl,e];simp;omega) W (HE.out W h))
 have HF2:=Lib.hid (fun sp W h (q':ByteArray) (d:UInt8) (hd:d.toNat<128) (e:dl q'=91::(t++[93])++[d])=>fails_as q' sp 31 (by rw[e];exact hP_six_more hprs d sp) (by
  rw[e]
  intro b hb
  simp only[List.cons_append,List.mem_cons,List.mem_append,List.mem_nil_iff,or_false]at hb
  rcases hb with rfl|(hb|rfl)|rfl
  ·decide
  ·exact lx_128 hlx b hb
  ·decide
  ·exact hd) (by rw[size_dl,e];simp;omega) W (HE.out W h))
 have HF3:=Lib.hid (fun sp W h (q':ByteArray) (e:dl q'=t++[93])=>fails_as q' sp 32 (by rw[e];exact hP_bare hlx sp) (by
  rw[e]
  intro b hb
  rcases List.mem_append.1 hb with hb|hb
  ·exact lx_128 hlx b hb
  ·rw[List.mem_singleton.1 hb];decide) (by rw[size_dl,e];simp;omega) W (HE.out W h))
 have HF4:=Lib.hid (fun W h=>fails_as ⟨#[91,93]⟩ true 31 fail_two (by decide) (by decide) W (HE.out W h))
 have HF5:=Lib.hid (fun W h=>fails_as ⟨#[91]⟩ false 31 fail_one (by decide) (by decide) W (HE.out W h))
 have HAW:=Lib.hid (fun W h=>awake14_any W (HE.out W h))
 obtain⟨y0,y1,y2,y3,y4,y5,y6,y7,rfl⟩:=Sx.eight hy8
 have HR1':Hid (∀ W,Below w1.heap.size w1 W->Calls Tryz.prog 24 #[.string f,.bool true] W (fun e w'=>e = .returned (.agg #[.int .u8 3,.string ⟨#[]⟩,.int .u32 (x:Int),.int .u16 0,.int .u16 0,.int .u16 0,.int .u16 0,.int .u16 0,.int .u16 0,.int .u16 0,.int .u16 0])/\Below W.heap.size W w')):=HR1
 have HR2':Hid (∀ W,Below w1.heap.size w1 W->Calls Tryz.prog 24 #[.string f,.bool false] W (fun e w'=>e = .returned (.agg #[.int .u8 5,.string f,.int .u32 0,.int .u16 0,.int .u16 0,.int .u16 0,.int .u16 0,.int .u16 0,.int .u16 0,.int .u16 0,.int .u16 0])/\Below W.heap.size W w')):=by rw[<-hf]at HR2 ⊢;exact HR2
 have HR3':Hid (∀ W,Below w1.heap.size w1 W->Calls Tryz.prog 24 #[.string (f++⟨#[46]⟩),.bool true] W (fun e w'=>e = .returned (.agg #[.int .u8 3,.string ⟨#[]⟩,.int .u32 (x:Int),.int .u16 0,.int .u16 0,.int .u16 0,.int .u16 0,.int .u16 0,.int .u16 0,.int .u16 0,.int .u16 0])/\Below W.heap.size W w')):=HR3
 have HR6':Hid (∀ sp W,Below w1.heap.size w1 W->Calls Tryz.prog 24 #[.string q,.bool sp] W (fun e w'=>e = .returned (.agg #[.int .u8 4,.string ⟨#[]⟩,.int .u32 0,.int .u16 (y0:Int),.int .u16 (y1:Int),.int .u16 (y2:Int),.int .u16 (y3:Int),.int .u16 (y4:Int),.int .u16 (y5:Int),.int .u16 (y6:Int),.int .u16 (y7:Int)])/\Below W.heap.size W w')):=HR6
 have HS4':Hid (∀ W,Below w1.heap.size w1 W->Calls Tryz.prog 13 #[.agg #[.int .u8 3,.string ⟨#[]⟩,.int .u32 (x:Int),.int .u16 0,.int .u16 0,.int .u16 0,.int .u16 0,.int .u16 0,.int .u16 0,.int .u16 0,.int .u16 0]] W (fun e w'=>e = .returned (.string f)/\Below W.heap.size W w')):=HS4
 have HS6':Hid (∀ W,Below w1.heap.size w1 W->Calls Tryz.prog 13 #[.agg #[.int .u8 4,.string ⟨#[]⟩,.int .u32 0,.int .u16 (y0:Int),.int .u16 (y1:Int),.int .u16 (y2:Int),.int .u16 (y3:Int),.int .u16 (y4:Int),.int .u16 (y5:Int),.int .u16 (y6:Int),.int .u16 (y7:Int)]] W (fun e w'=>e = .returned (.string q)/\Below W.heap.size W w')):=HS6
 have HSX':Hid (∀ W,Below w1.heap.size w1 W->Calls Tryz.prog 23 #[.agg #[.int .u16 (y0:Int),.int .u16 (y1:Int),.int .u16 (y2:Int),.int .u16 (y3:Int),.int .u16 (y4:Int),.int .u16 (y5:Int),.int .u16 (y6:Int),.int .u16 (y7:Int)]] W (fun e w'=>e = .returned (.string s)/\Below W.heap.size W w')):=HSX
 have he3:∀ W:World,(Op.equalIn 10000 27 (.agg #[.int .u8 3,.string ⟨#[]⟩,.int .u32 (x:Int),.int .u16 0,.int .u16 0,.int .u16 0,.int .u16 0,.int .u16 0,.int .u16 0,.int .u16 0,.int .u16 0]) (.agg #[.int .u8 3,.string ⟨#[]⟩,.int .u32 (x:Int),.int .u16 0,.int .u16 0,.int .u16 0,.int .u16 0,.int .u16 0,.int .u16 0,.int .u16 0,.int .u16 0])).run Tryz.prog W = .ok true W:=fun W=>same_lit ⟨3,[],x,Sx.z8⟩ _ rfl rfl W
 have he5:∀ W:World,(Op.equalIn 10000 27 (.agg #[.int .u8 5,.string f,.int .u32 0,.int .u16 0,.int .u16 0,.int .u16 0,.int .u16 0,.int .u16 0,.int .u16 0,.int .u16 0,.int .u16 0]) (.agg #[.int .u8 5,.string f,.int .u32 0,.int .u16 0,.int .u16 0,.int .u16 0,.int .u16 0,.int .u16 0,.int .u16 0,.int .u16 0,.int .u16 0])).run Tryz.prog W = .ok true W:=fun W=>same_lit ⟨5,Fou.shw x,0,Sx.z8⟩ _ (by rw[<-hf];rfl) rfl W
 have he6:∀ W:World,(Op.equalIn 10000 27 (.agg #[.int .u8 4,.string ⟨#[]⟩,.int .u32 0,.int .u16 (y0:Int),.int .u16 (y1:Int),.int .u16 (y2:Int),.int .u16 (y3:Int),.int .u16 (y4:Int),.int .u16 (y5:Int),.int .u16 (y6:Int),.int .u16 (y7:Int)]) (.agg #[.int .u8 4,.string ⟨#[]⟩,.int .u32 0,.int .u16 (y0:Int),.int .u16 (y1:Int),.int .u16 (y2:Int),.int .u16 (y3:Int),.int .u16 (y4:Int),.int .u16 (y5:Int),.int .u16 (y6:Int),.int .u16 (y7:Int)])).run Tryz.prog W = .ok true W:=fun W=>same_lit ⟨4,[],0,[y0,y1,y2,y3,y4,y5,y6,y7]⟩ _ rfl rfl W
 have HSS:Hid (∀ w',Below w1.heap.size w1 w'->(w'.cell? ⟨w.heap.size,0,none⟩=some (.int .u16 (y0:Int))/\w'.cell? ⟨w.heap.size,1,none⟩=some (.int .u16 (y1:Int))/\w'.cell? ⟨w.heap.size,2,none⟩=some (.int .u16 (y2:Int))/\w'.cell? ⟨w.heap.size,3,none⟩=some (.int .u16 (y3:Int))/\w'.cell? ⟨w.heap.size,4,none⟩=some (.int .u16 (y4:Int))/\w'.cell? ⟨w.heap.size,5,none⟩=some (.int .u16 (y5:Int))/\w'.cell? ⟨w.heap.size,6,none⟩=some (.int .u16 (y6:Int))/\w'.cell? ⟨w.heap.size,7,none⟩=some (.int .u16 (y7:Int)))):=Lib.hid (fun w' hB=>by
  have hy:=HY.out.go hB
  obtain⟨b0,b1,b2,b3,b4,b5,b6,b7⟩:=hy.eight
  exact⟨b0,b1,b2,b3,b4,b5,b6,b7⟩)
 have hz6:s.size=t.length:=by rw[size_dl,hds]
 have hk0:¬ (9223372036854775807<f.size+1):=by omega
 have hk1:¬ (9223372036854775807<1+s.size):=by omega
 have hk2:¬ (9223372036854775807<1+s.size+1):=by omega
 have HQ:=Lib.hid hq
 have HDQ:=Lib.hid hdq
 have HQZ:=Lib.hid (show q.size=t.length+2 from hzq)
 clear HR1 HR2 HR3 HR6 HS4 HS6 HSX hx hy8 hy16 hr hE hE1 hB0 hya hprs hlx h6s h4len ht ht0 hf hs hdf hds ha4 hd5 haq hz4 hz6 hzq
 go_enter Tryz.func6,Tryz.ntmps6
 go_upto_region 1 with fail
 clear hw1
 go_cut [7,8] from 13 to 18 (fun s7 s8 wx=>s7 = .string f/\s8 = .string q/\Below w1.heap.size w1 wx)
 case first =>
  have hR:Below w1.heap.size w1 w1.drew:=(Below.refl _ w1).drew
  go_region_held3 (fun w'=>w'.cell? ⟨w.heap.size,0,none⟩=some (.int .u16 (y0:Int))/\w'.cell? ⟨w.heap.size,1,none⟩=some (.int .u16 (y1:Int))/\w'.cell? ⟨w.heap.size,2,none⟩=some (.int .u16 (y2:Int))/\w'.cell? ⟨w.heap.size,3,none⟩=some (.int .u16 (y3:Int))/\w'.cell? ⟨w.heap.size,4,none⟩=some (.int .u16 (y4:Int))/\w'.cell? ⟨w.heap.size,5,none⟩=some (.int .u16 (y5:Int))/\w'.cell? ⟨w.heap.size,6,none⟩=some (.int .u16 (y6:Int))/\w'.cell? ⟨w.heap.size,7,none⟩=some (.int .u16 (y7:Int))) (first|exact HSS.out _ hR|exact HSS.out _ (Below.refl _ _)) (first
   | (go_at_call 22;((with_reducible refine (HSF.out _ hR).mono ?_);rintro e wF ⟨rfl,hb⟩;replace hR:=upB hR hb;clear hb))
   | (go_at_call 23;((with_reducible refine (HSX'.out _ hR).mono ?_);rintro e wF ⟨rfl,hb⟩;replace hR:=upB hR hb;clear hb))
   | fail)
  all_goals
   go_wp2_with fail
   go_meet
   exact⟨rfl,rfl,hR⟩
 case rest =>
  obtain⟨rfl,rfl,hR⟩:=hcut
  go_upto_region 2 with fail
  go_cut [38] from 19 to 38 (fun s38 wx=>s38 = .bool false/\Below w1.heap.size w1 wx)
  case first =>
   go_wp2_with(first
    | (go_at_call 24;((with_reducible refine (HR1'.out _ hR).mono ?_);rintro e wF ⟨rfl,hb⟩;replace hR:=upB hR hb;clear hb))
    | (go_at_call 24;((with_reducible refine (HR2'.out _ hR).mono ?_);rintro e wF ⟨rfl,hb⟩;replace hR:=upB hR hb;clear hb))
    | (go_at_call 24;((with_reducible refine (HR3'.out _ hR).mono ?_);rintro e wF ⟨rfl,hb⟩;replace hR:=upB hR hb;clear hb))
    | fail)
   go_meet
   exact⟨rfl,hR⟩
  case rest =>
   clear hR
   obtain⟨rfl,hR⟩:=hcut
   go_upto_region 4 with fail
   generalize wc=w2 at hR ⊢
   obtain⟨b0,b1,b2,b3,b4,b5,b6,b7⟩:=HSS.out _ hR
   go_upto_region 5 with(first
    | (refine storeH rfl _ _ rfl _ 27 hN (⟨4,[],0,[y0,y1,y2,y3,y4,y5,y6,y7]⟩:Ho) rfl rfl (HBk.new w2 27 hN) rfl rfl ?_;intro w3 hX hb;go_simp)
    | fail)
   clear b0 b1 b2 b3 b4 b5 b6 b7
   have hR3:Below w1.heap.size w1 w3:=upB hR ((upA w2 (.cells hN.cs.toArray 27)).trans hb)
   clear hR hb
   have HXX:Hid (∀ w',Below w3.heap.size w3 w'->(w'.cell? ⟨w2.heap.size,0,none⟩=some (.int .u8 4)/\w'.cell? ⟨w2.heap.size,1,none⟩=some (.string ⟨#[]⟩)/\w'.cell? ⟨w2.heap.size,2,none⟩=some (.int .u32 0)/\w'.cell? ⟨w2.heap.size,3,none⟩=some (.int .u16 (y0:Int))/\w'.cell? ⟨w2.heap.size,4,none⟩=some (.int .u16 (y1:Int))/\w'.cell? ⟨w2.heap.size,5,none⟩=some (.int .u16 (y2:Int))/\w'.cell? ⟨w2.heap.size,6,none⟩=some (.int .u16 (y3:Int))/\w'.cell? ⟨w2.heap.size,7,none⟩=some (.int .u16 (y4:Int))/\w'.cell? ⟨w2.heap.size,8,none⟩=some (.int .u16 (y5:Int))/\w'.cell? ⟨w2.heap.size,9,none⟩=some (.int .u16 (y6:Int))/\w'.cell? ⟨w2.heap.size,10,none⟩=some (.int .u16 (y7:Int)))):=Lib.hid (fun w' hB=>by
    have h:=hX.go hB
    exact⟨HBk.cell (k:=0) h rfl,HBk.cell (k:=1) h rfl,HBk.cell (k:=2) h rfl,HBk.cell (k:=3) h rfl,HBk.cell (k:=4) h rfl,HBk.cell (k:=5) h rfl,HBk.cell (k:=6) h rfl,HBk.cell (k:=7) h rfl,HBk.cell (k:=8) h rfl,HBk.cell (k:=9) h rfl,HBk.cell (k:=10) h rfl⟩)
   clear hX
   have HR3:=Lib.hid hR3
   go_cut [63] from 41 to 63 (fun s63 wx=>s63 = .bool false/\Below w1.heap.size w1 wx)
   case first =>
    clear hR3
    have hq:Below w3.heap.size w3 w3.drew:=(Below.refl _ w3).drew
    go_region_held3 (fun w'=>w'.cell? ⟨w2.heap.size,0,none⟩=some (.int .u8 4)/\w'.cell? ⟨w2.heap.size,1,none⟩=some (.string ⟨#[]⟩)/\w'.cell? ⟨w2.heap.size,2,none⟩=some (.int .u32 0)/\w'.cell? ⟨w2.heap.size,3,none⟩=some (.int .u16 (y0:Int))/\w'.cell? ⟨w2.heap.size,4,none⟩=some (.int .u16 (y1:Int))/\w'.cell? ⟨w2.heap.size,5,none⟩=some (.int .u16 (y2:Int))/\w'.cell? ⟨w2.heap.size,6,none⟩=some (.int .u16 (y3:Int))/\w'.cell? ⟨w2.heap.size,7,none⟩=some (.int .u16 (y4:Int))/\w'.cell? ⟨w2.heap.size,8,none⟩=some (.int .u16 (y5:Int))/\w'.cell? ⟨w2.heap.size,9,none⟩=some (.int .u16 (y6:Int))/\w'.cell? ⟨w2.heap.size,10,none⟩=some (.int .u16 (y7:Int))) (first|exact HXX.out _ hq|exact HXX.out _ (Below.refl _ _)) (first
     | (go_at_call 24;((with_reducible refine (HR6'.out true _ (upB HR3.out hq)).mono ?_);rintro e wF ⟨rfl,hb⟩;replace hq:=upB hq hb;clear hb))
     | (go_at_call 24;((with_reducible refine (HR6'.out false _ (upB HR3.out hq)).mono ?_);rintro e wF ⟨rfl,hb⟩;replace hq:=upB hq hb;clear hb))
     | (go_at_call 13;((with_reducible refine (HS6'.out _ (upB HR3.out hq)).mono ?_);rintro e wF ⟨rfl,hb⟩;replace hq:=upB hq hb;clear hb))
     | (go_at_call 13;((with_reducible refine (HS4'.out _ (upB HR3.out hq)).mono ?_);rintro e wF ⟨rfl,hb⟩;replace hq:=upB hq hb;clear hb))
     | fail)
    all_goals
     go_wp2_with fail
     go_meet
     exact⟨rfl,upB HR3.out hq⟩
   case rest =>
    clear hR3
    obtain⟨rfl,hR⟩:=hcut
    generalize wc=w4 at hR ⊢
    have hR5:Below w1.heap.size w1 (w4.alloc (.cells #[.bool true,.bool false] 4)):=hR.alloc hR.size _
    have hc5:HCells (w4.alloc (.cells #[.bool true,.bool false] 4)) w4.heap.size:=HCells.new w4 4
    go_upto_region 8 with fail
    generalize w4.alloc (.cells #[.bool true,.bool false] 4)=w5 at hR5 hc5 ⊢
    have HC5:=Lib.hid hc5
    have HR5:=Lib.hid hR5
    clear hR hR5 hc5
    have hR0:=Below.refl w5.heap.size w5
    obtain⟨m,hm⟩:∃ m,t.length+1=m:=⟨_,rfl⟩
    have HMT:=Lib.hid hm
    have hqm:q.size=m+1:=by have:=HQZ.out;omega
    have hml:(m:Int)<=(q.size:Int):=by omega
    have h1q:(1:Int)<=(q.size:Int):=by omega
    have hm0:(0:Int)<=(m:Int):=by omega
    obtain⟨d,hd⟩:∃ d:Nat,c%128=(d:Int):=⟨(c%128).toNat,by omega⟩
    have hd7:d<128:=by omega
    have hand:bits .and .u8 c 127=(d:Int):=by
     obtain⟨e,rfl⟩:=Int.eq_ofNat_of_zero_le c0
     have he:e<256:=by omega
     have H:∀ e:Fin 256,bits .and .u8 ((e.1:Nat):Int) 127=((e.1%128:Nat):Int):=by decide +kernel
     rw[H ⟨e,he⟩,<-hd]
     simp
    have HCV:Hid (∀ W:World,(convert 41 9 (.slice (some ⟨W.heap.size,0,none⟩) 1 1)).run Tryz.prog (W.alloc (.cells #[.int .u8 (d:Int)] 5)) = .ok (.string (Fou.bs [UInt8.ofNat d])) (W.alloc (.cells #[.int .u8 (d:Int)] 5))):=Lib.hid (fun W=>conv_b d W)
    clear hm hqm hd c0 c1
    go_loopg [11,12,66] 2 (fun k s11 s12 s66 wr => ∃ i:Nat,s66 = .int .i64 (i:Int)/\k=2-i/\i<=2/\Below w5.heap.size w5 wr)
    case atStart=>exact⟨0,rfl,rfl,Nat.zero_le _,hR0⟩
    case round =>
     obtain⟨i,rfl,rfl,hi,hB⟩:=hrel
     have hcc:=HC5.out.go hB
     obtain⟨c0,c1⟩:=hcc
     have hp1:Hid (∀ j,j=m->dl (q.extract 0 j)=91::t):=Lib.hid (fun j hj=>by rw[hj,ext_take,HDQ.out,<-HMT.out];simp)
     have hp2:Hid (dl (q.extract 1 q.size)=t++[93]):=Lib.hid (by rw[ext_drop,HDQ.out];rfl)
     have hR:Below w1.heap.size w1 wr:=upB HR5.out hB
     have hp4:Hid (dl (q++Fou.bs [UInt8.ofNat d])=91::(t++[93])++[UInt8.ofNat d]):=Lib.hid (by rw[dl_add,HDQ.out,dl_bs];rfl)
     have hk4:¬ (9223372036854775807<q.size+(Fou.bs [UInt8.ofNat d]).size):=by rw[show (Fou.bs [UInt8.ofNat d]).size=1 from rfl];have:=HQZ.out;omega
     by_cases h0:i=0
     ·subst h0
      go_upto_region 10 with fail
      have hcv:=HCV.out
      go_wp2_with(first
       | (go_at_call 25;((with_reducible refine (HF1.out true _ hR _ (hp1.out _ (by have:=HQZ.out;have:=HMT.out;omega))).mono ?_);rintro e wF ⟨rfl,hb⟩;replace hR:=upB hR hb;replace hB:=upB hB hb;clear hb))
       | (go_at_call 25;((with_reducible refine (HF2.out true _ (hR.alloc hR.size _) _ (UInt8.ofNat d) (by rw[UInt8.toNat_ofNat'];omega) (hp4.out)).mono ?_);rintro e wG ⟨rfl,hb⟩;replace hb:=(upA _ (.cells #[.int .u8 (d:Int)] 5)).trans (hb.mono (upA _ _).size);replace hR:=upB hR hb;replace hB:=upB hB hb;clear hb))
       | (go_at_call 25;((with_reducible refine (HF3.out true _ hR _ hp2.out).mono ?_);rintro e wF ⟨rfl,hb⟩;replace hR:=upB hR hb;replace hB:=upB hB hb;clear hb))
       | fail)
      go_roundg (2-1)
      case measure=>omega
      case rel=>exact⟨1,rfl,rfl,by omega,hB⟩
     ·by_cases h1:i=1
      ·subst h1
       go_upto_region 10 with fail
       have hcv:=HCV.out
       go_wp2_with(first
        | (go_at_call 25;((with_reducible refine (HF1.out false _ hR _ (hp1.out _ (by have:=HQZ.out;have:=HMT.out;omega))).mono ?_);rintro e wF ⟨rfl,hb⟩;replace hR:=upB hR hb;replace hB:=upB hB hb;clear hb))
        | (go_at_call 25;((with_reducible refine (HF2.out false _ (hR.alloc hR.size _) _ (UInt8.ofNat d) (by rw[UInt8.toNat_ofNat'];omega) (hp4.out)).mono ?_);rintro e wG ⟨rfl,hb⟩;replace hb:=(upA _ (.cells #[.int .u8 (d:Int)] 5)).trans (hb.mono (upA _ _).size);replace hR:=upB hR hb;replace hB:=upB hB hb;clear hb))
        | (go_at_call 25;((with_reducible refine (HF3.out false _ hR _ hp2.out).mono ?_);rintro e wF ⟨rfl,hb⟩;replace hR:=upB hR hb;replace hB:=upB hB hb;clear hb))
        | fail)
       go_roundg (2-2)
       case measure=>omega
       case rel=>exact⟨2,rfl,rfl,by omega,hB⟩
      ·obtain rfl:i=2:=by omega
       go_wp2_with(first
        | (go_at_call 25;((with_reducible refine (HF4.out _ hR).mono ?_);rintro e wF ⟨rfl,hb⟩;replace hR:=upB hR hb;clear hb))
        | (go_at_call 25;((with_reducible refine (HF5.out _ hR).mono ?_);rintro e wF ⟨rfl,hb⟩;replace hR:=upB hR hb;clear hb))
        | (go_at_call 8;((with_reducible refine (HAW.out _ hR).mono ?_);rintro e wF ⟨rfl,hb⟩;replace hR:=upB hR hb;clear hb))
        | fail)
       go_ret
       exact⟨rfl,upB HB0.out hR⟩
end Go.Proofs.YtediahdedmkehaaGreatDoor.Hst
