import PyProof.Rows.All
import Wide.All
import OpenK.AllK
import Wide.FinOn
import HandS.ForMost
import HandS.ForExc
import HandS.Rev
import HandS.IsInst
import HandS.ExcIs
import HandS.Codes
import HandS.SortKw
import HandS.More
import HandS.DictTup
import HandS.CallRecv
import KE.RegKIsAll
import KE.SortData
import KE.DataMinMax
import KE.DatumOrd
import HandS.TupAny
import HandS.TupMul
import HandS.Conv
import HandS.SortInts
import HandS.Rev
import HandS.RevTup
import PySem.Challenge.RW_stillhands_k23_keeps
set_option Elab.async false
set_option linter.all false
set_option maxRecDepth 100000
set_option maxHeartbeats 4000000
/-! words of mine over the hand layer: a def that the module holds under a name (Cal), its call; lists; the draws of a script -/
namespace Sd
open PySem L2
/-- the module's name x holds a def that keeps sp -/
structure Cal (P : Program) (w : World) (K : PySem.W.Frag) (mg : Str → Option Value) (base : Heap) (CX : CXT) (k : Nat) (x : Str) (ps : List Str) (sp : Sp) : Prop where
  ex : ∃ f fd, mg x = some (.ref f) ∧ PySem.W.keepIn K (.ref f) = true ∧ Binds K fd ps [] ∧ FnOk P w K mg base CX k f fd ps sp
section
variable {X : Cx} {CX : CXT} {k : Nat} {ps : List Str} {sp : Sp} {E : XK} {x : Str} {p pos : Pos} {e : Expr} {es : List Expr} {t : TA}
theorem pe_fn (c : Cal X.prog X.w X.K X.mg X.base CX k x ps sp) (hr : Room k X.A) (hx : Passes CX X E) (ha : PA X (e :: es) t) (hg : Gl X x := by rfl)
    (hdb : (x == ("__debug__" : Str)) = false := by decide) (he : starEach (e :: es) X.env = (false, eval e X.env) :: starEach es X.env := by rfl) (hpl : (backTo pos (starEach es X.env)).any (·.1) = false := by rfl) :
    PE X (.Call (.Name x p) (e :: es) [] pos) (tCall sp [] E t) := by
  obtain ⟨f, fd, hm, hk, hb, F⟩ := c.ex
  exact pe_call F hr hg hm hk hb .nil hx ha hdb he hpl
theorem pe_fn0 (c : Cal X.prog X.w X.K X.mg X.base CX k x ps sp) (hr : Room k X.A) (hx : Passes CX X E) (hg : Gl X x := by rfl)
    (hdb : (x == ("__debug__" : Str)) = false := by decide) : PE X (.Call (.Name x p) [] [] pos) (tCall sp [] E tNil) := by
  obtain ⟨f, fd, hm, hk, hb, F⟩ := c.ex
  exact pe_call0 F hr hg hm hk hb .nil hx hdb
end
theorem Cal.mk' {P : Program} {w : World} {K : PySem.W.Frag} {mg : Str → Option Value} {base : Heap} {CX : CXT} {k : Nat} {x q : Str} {st : Stmt} {f : Addr} {fd : FuncData} {ps : List Str} {sp : Sp}
    (F : Fun K x q st f fd) (hm : mg x = some (.ref f)) (b : Binds K fd ps []) (G : FnOk P w K mg base CX k f fd ps sp) : Cal P w K mg base CX k x ps sp := ⟨f, fd, hm, F.kp, b, G⟩

/-! ### heaps -/
/-- what was tracked stands, but for the object at d -/
def But (d : Addr) (H H' : Hp) : Prop := ∀ b o, b ≠ d → H b = some o → H' b = some o
theorem But.refl (d : Addr) (H : Hp) : But d H H := fun _ _ _ h => h
theorem But.trans {d : Addr} {H H1 H2 : Hp} (a : But d H H1) (b : But d H1 H2) : But d H H2 := fun c o n h => b c o n (a c o n h)
theorem But.upd {d : Addr} {H : Hp} {o : HO} : But d H (upd H d o) := fun b u n h => by
  rw [upd_ne n]
  exact h
theorem Same.but {d : Addr} {H H' : Hp} (s : Same H H') : But d H H' := fun b o _ h => s b o h
theorem Same.new {H : Hp} {p : Addr} {o : HO} (h : H p = none) : Same H (upd H p o) := fun b u e => by
  rw [upd_ne (ne_of_none e h)]
  exact e
theorem Same.new2 {H : Hp} {p : Addr} {o o2 : HO} (h : H p = none) : Same H (upd (upd H p o) p o2) := fun b u e => by
  rw [upd_ne (ne_of_none e h), upd_ne (ne_of_none e h)]
  exact e
theorem But.same {d : Addr} {H H' : Hp} (s : But d H H') (h : H d = none) : Same H H' := fun b o e => s b o (ne_of_none e h) e
/-- the heap H' tracks what it did, and at d what it says -/
theorem But.free {d : Addr} {H H' : Hp} (s : But d H H') {u : HO} (hd : H' d = some u) {l : Addr} (h : H' l = none) : H l = none := by
  cases q : H l with
  | none => rfl
  | some o =>
    have n : l ≠ d := fun z => by
      rw [z, hd] at h
      cases h
    rw [s l o n q] at h
    cases h
theorem SqL.new {K : PySem.W.Frag} {H : Hp} {a p : Addr} {xs : List V} {o : HO} (h : SqL K H a xs) (n : H p = none) : SqL K (upd H p o) a xs := Same.seq (Same.new n) h
theorem SqL.but {K : PySem.W.Frag} {H H' : Hp} {a d : Addr} {xs : List V} (h : SqL K H a xs) (s : But d H H') (n : a ≠ d ∨ H d = none) : SqL K H' a xs := by
  rcases n with n | n
  · rcases h with (h | ⟨o, h⟩) | h
    · exact .inl (.inl (s _ _ n h))
    · exact .inl (.inr ⟨o, s _ _ n h⟩)
    · exact .inr h
  · exact Same.seq (s.same n) h
/-- a list that holds the object p is no list of ints -/
theorem SqL.keep {K : PySem.W.Frag} {H H' : Hp} {a d : Addr} {xs ys : List V} (h : SqL K H a xs) (s : But d H H') (hd : H d = some (.lst ys)) (n : ys ≠ xs) : SqL K H' a xs := by
  rcases h with (h | ⟨o, h⟩) | h
  · refine .inl (.inl (s _ _ (fun z => ?_) h))
    rw [z, hd] at h
    exact n (by cases h; rfl)
  · refine .inl (.inr ⟨o, s _ _ (fun z => ?_) h⟩)
    rw [z, hd] at h
    cases h
  · exact .inr h

/-! ### lists of ints -/
theorem ints_get {ns : List Int} {j : Nat} {v : Int} (h : ns[j]? = some v) : (ns.map V.int)[j]? = some (.int v) := by
  rw [List.getElem?_map, h]
  rfl
theorem ints_got {ns : List Int} {j : Nat} {y : V} (h : (ns.map V.int)[j]? = some y) : ∃ v, ns[j]? = some v ∧ y = .int v := by
  rw [List.getElem?_map] at h
  cases e : ns[j]? with
  | none =>
    rw [e] at h
    cases h
  | some v =>
    rw [e] at h
    exact ⟨v, rfl, (Option.some.inj h).symm⟩
theorem ixN_nat {n j : Nat} (hj : j < n) : ixN n ((j : Nat) : Int) = some j := by
  unfold ixN
  rw [if_pos (Int.natCast_nonneg j), if_pos (by omega), Int.toNat_natCast]
theorem size1 {n : Int} (h0 : 0 ≤ n) (h1 : n ≤ 100000) : 1 * n.toNat ≤ sizeLine := Nat.le_trans (by omega : 1 * n.toNat ≤ 100000) (by decide)
def dInts (ns : List Int) : PyData := .list (ns.map PyData.int)
theorem dInts_all {K : PySem.W.Frag} {H : Hp} : ∀ ns : List Int, DpAll K H (ns.map V.int) (ns.map PyData.int)
  | [] => .nil
  | n :: r => .cons (.int n) (dInts_all r)
theorem dInts_dp {K : PySem.W.Frag} {H : Hp} {a : Addr} {ns : List Int} (h : SqL K H a (ns.map V.int)) : Dp K H (.ref a) (dInts ns) := .lst h (dInts_all ns)
theorem lay_ints : ∀ ns : List Int, PyData.canLayAll0 (ns.map PyData.int) = true
  | [] => rfl
  | n :: r => by
    have h := lay_ints r
    show (PyData.canLay0 (.int n) && PyData.canLayAll0 (r.map PyData.int)) = true
    rw [h]
    rfl
theorem depth_ints : ∀ ns : List Int, PyData.depthAll (ns.map PyData.int) = 0
  | [] => rfl
  | n :: r => by
    have h := depth_ints r
    show max (PyData.depth (.int n)) (PyData.depthAll (r.map PyData.int)) = 0
    rw [h]
    rfl
theorem dInts_shaped (ns : List Int) : SeqAt.shaped (dInts ns) = true := by
  have h1 : PyData.canLay0 (dInts ns) = true := lay_ints ns
  have h2 : PyData.depth (dInts ns) = PyData.depthAll (ns.map PyData.int) + 1 := rfl
  rw [depth_ints] at h2
  unfold SeqAt.shaped
  rw [h1, h2]
  rfl
theorem eqv_all : ∀ ns : List Int, PyData.eqvAll (ns.map PyData.int) (ns.map PyData.int) = true
  | [] => rfl
  | n :: r => by
    have h := eqv_all r
    show (PyData.eqv (.int n) (.int n) && PyData.eqvAll (r.map PyData.int) (r.map PyData.int)) = true
    rw [h]
    show ((n == n) && true) = true
    rw [beq_self_eq_true]
    rfl
theorem eqv_ints (ns : List Int) : PyData.eqv (dInts ns) (dInts ns) = true := eqv_all ns
/-- an if whose test is known -/
theorem if_no {c : Bool} {A B : Prop} (h : c = true) (q : B) : if (!c) = true then A else B := by
  rw [h]
  exact q
theorem if_yes {c : Bool} {A B : Prop} (h : c = true) (q : A) : if c = true then A else B := by
  rw [h]
  exact q
theorem if_not {c : Bool} {A B : Prop} (h : c = false) (q : B) : if c = true then A else B := by
  rw [h]
  exact q
theorem ty_int {K : PySem.W.Frag} {H : Hp} {i : Int} : TyX K H (.int i) (.type "int") := .base (.int i)
theorem ty_lst {K : PySem.W.Frag} {H : Hp} {a : Addr} {xs : List V} (h : H a = some (.lst xs)) : TyX K H (.ref a) (.type "list") := .base (.lst h)
/-- a list that stood where p was free stands when p's object is laid or changed -/
theorem SqL.upd0 {K : PySem.W.Frag} {H0 H : Hp} {a p : Addr} {xs : List V} {o : HO} (h0 : SqL K H0 a xs) (hp : H0 p = none) (h : SqL K H a xs) : SqL K (upd H p o) a xs := by
  rcases h0 with h0 | h0
  · have n : a ≠ p := by
      rcases h0 with h0 | ⟨u, h0⟩
      · exact ne_of_none h0 hp
      · exact ne_of_none h0 hp
    exact SqL.but h (But.upd (d := p)) (.inl n)
  · exact .inr h0
theorem rep_flat (n : Nat) (i : Int) : (List.replicate n [V.int i]).flatten = (List.replicate n i).map V.int := by
  induction n with
  | zero => rfl
  | succ n ih =>
    rw [List.replicate_succ, List.replicate_succ, List.flatten_cons, ih]
    rfl
/-- an instance that is made: what stood, stands -/
theorem made_same {H H' : Hp} {x dx : Addr} {u v : HO} (h1 : H x = none) (h2 : H dx = none) (b : But x (upd (upd H dx u) x v) H') : Same H H' := fun c o e => by
  have n1 : c ≠ x := ne_of_none e h1
  have n2 : c ≠ dx := ne_of_none e h2
  refine b c o n1 ?_
  rw [upd_ne n1, upd_ne n2]
  exact e
theorem made_free {H : Hp} {x dx l : Addr} {u v : HO} (h1 : H x = none) (h2 : H dx = none) (h : upd (upd H dx u) x v l = none) : H l = none := by
  cases q : H l with
  | none => rfl
  | some o =>
    have n1 : l ≠ x := ne_of_none q h1
    have n2 : l ≠ dx := ne_of_none q h2
    rw [upd_ne n1, upd_ne n2, q] at h
    cases h
/-- a list that stood where p was free stands whatever p's object becomes -/
theorem SqL.other {K : PySem.W.Frag} {H0 H H' : Hp} {a p : Addr} {xs : List V} (h0 : SqL K H0 a xs) (hp : H0 p = none) (h : SqL K H a xs) (s : But p H H') : SqL K H' a xs := by
  rcases h0 with h0 | h0
  · have n : a ≠ p := by
      rcases h0 with h0 | ⟨u, h0⟩
      · exact ne_of_none h0 hp
      · exact ne_of_none h0 hp
    exact SqL.but h s (.inl n)
  · exact .inr h0
end Sd

/-! words of mine for classes: a method, a call of the class -/
namespace Sd
open PySem L2
structure CalM (P : Program) (w : World) (K : PySem.W.Frag) (mg : Str → Option Value) (base : Heap) (CX : CXT) (k : Nat) (C : Addr) (m : Str) (ps : List Str) (sp : Sp) : Prop where
  cl : Cls K C
  ex : ∃ f fd, Meth K C m f ∧ Binds K fd ps [] ∧ FnOk P w K mg base CX k f fd ps sp
structure CalI (P : Program) (w : World) (K : PySem.W.Frag) (mg : Str → Option Value) (base : Heap) (CX : CXT) (k : Nat) (x : Str) (C : Addr) (ps : List Str) (sp : Sp) : Prop where
  at_ : mg x = some (.ref C)
  ex : ∃ f fd, Mk K C f ∧ Binds K fd ps [] ∧ FnOk P w K mg base CX k f fd ps sp
section
variable {P : Program} {w : World} {K : PySem.W.Frag} {mg : Str → Option Value} {base : Heap} {CX : CXT} {k : Nat} {x q m : Str} {st : Stmt} {f C : Addr} {fd : FuncData} {ps : List Str} {sp : Sp}
theorem CalM.mk' (_ : Fun K m q st f fd) (c : Cls K C) (h : Meth K C m f) (b : Binds K fd ps []) (G : FnOk P w K mg base CX k f fd ps sp) : CalM P w K mg base CX k C m ps sp := ⟨c, f, fd, h, b, G⟩
theorem CalI.mk' (_ : Fun K m q st f fd) (hm : mg x = some (.ref C)) (h : Mk K C f) (b : Binds K fd ps []) (G : FnOk P w K mg base CX k f fd ps sp) : CalI P w K mg base CX k x C ps sp := ⟨hm, f, fd, h, b, G⟩
end
section
variable {X : Cx} {CX : CXT} {k : Nat} {C : Addr} {ps : List Str} {sp : Sp} {E : XK} {ES : St → XK} {x m : Str} {p pos apos : Pos} {e o : Expr} {es : List Expr} {ta : TE} {t : TA}
/-- how the text's call of a method goes: the object, the method found, its arguments -/
abbrev Goes (X : Cx) (o : Expr) (m : Str) (es : List Expr) (apos pos : Pos) (pl : Sem Bool) : Prop :=
  eval (.Call (.Attribute o m apos) es [] pos) X.env =
    (eval o X.env >>= fun v => standAt apos.atName >>= fun _ => holding [v] (getMethod v m pl) >>= fun g => callWith pos g.1 g.2 (backTo pos (starEach es X.env)) (backToKw pos (keywordEach [] X.env)))
theorem pe_mt {pl : Sem Bool} (c : CalM X.prog X.w X.K X.mg X.base CX k C m ps sp) (hr : Room k X.A) (hx : Passes CX X E) (he : PE X o ta) (ha : PA X (e :: es) t)
    (hst : starEach (e :: es) X.env = (false, eval e X.env) :: starEach es X.env := by rfl) (hpl : (backTo pos (starEach es X.env)).any (·.1) = false := by rfl)
    (ht : Goes X o m (e :: es) apos pos pl := by rfl) : PE X (.Call (.Attribute o m apos) (e :: es) [] pos) (tMeth C m sp [] E ta t) := by
  obtain ⟨f, fd, hm, hb, F⟩ := c.ex
  exact pe_meth he c.cl hm F hr hb .nil hx ha hst hpl ht
theorem pe_mt0 {pl : Sem Bool} (c : CalM X.prog X.w X.K X.mg X.base CX k C m ps sp) (hr : Room k X.A) (hx : Passes CX X E) (he : PE X o ta)
    (ht : Goes X o m [] apos pos pl := by rfl) : PE X (.Call (.Attribute o m apos) [] [] pos) (tMeth C m sp [] E ta tNil) := by
  obtain ⟨f, fd, hm, hb, F⟩ := c.ex
  exact pe_meth0 he c.cl hm F hr hb .nil hx ht
/-- .. in a try: what is raised is wished for at the slots -/
def tMtS (C : Addr) (m : Str) (sp : Sp) (E : St → XK) (ta : TE) (t : TA) : TE := fun σ H Q =>
  ta σ H fun x H1 => ∃ a dx fs, x = .ref a ∧ H1 a = some (.ins C dx fs) ∧ fs.lookup m = none ∧ t σ H1 fun vs H2 => sp (x :: vs) H2 Q (E σ)
theorem pe_mtS {pl : Sem Bool} (c : CalM X.prog X.w X.K X.mg X.base CX k C m ps sp) (hr : Room k X.A) (hx : ∀ σ, PassesAt CX X σ (ES σ)) (he : PE X o ta) (ha : PA X (e :: es) t)
    (hst : starEach (e :: es) X.env = (false, eval e X.env) :: starEach es X.env := by rfl) (hpl : (backTo pos (starEach es X.env)).any (·.1) = false := by rfl)
    (ht : Goes X o m (e :: es) apos pos pl := by rfl) : PE X (.Call (.Attribute o m apos) (e :: es) [] pos) (tMtS C m sp ES ta t) := by
  obtain ⟨f, fd, hm, hb, F⟩ := c.ex
  refine ⟨fun pins s σ H R I h => PySem.W.methodCall_KW (pl := pl) (thn (he.run pins s σ H _ I h) fun u s1 hh => ?_) ht⟩
  obtain ⟨y, H1, I1, ry, a, dx, fs, rfl, hins, hno, q⟩ := hh
  cases (show u = Value.ref a from ry)
  refine getmeth_ok I1 hins c.cl hm hno (PySem.W.callWith_K (first := [.ref a]) (h₀ := X.base) I.ok.mod.kin hm.kp (thn (ha.run pos pins s1 σ H1 _ I1 q) fun us s2 h2 => ?_) hst hpl)
  obtain ⟨vs, H2, I2, rv, q2⟩ := h2
  exact ⟨I2.kIn, run_fnS (us := .ref a :: us) (vs := .ref a :: vs) F hr hb (hx σ) I2 (.cons rfl rv) q2⟩
theorem pe_mk (c : CalI X.prog X.w X.K X.mg X.base CX k x C ps sp) (hr : Room (k + 1) X.A) (hx : Passes CX X E) (ha : PA X (e :: es) t) (hg : Gl X x := by rfl)
    (hdb : (x == ("__debug__" : Str)) = false := by decide) (he : starEach (e :: es) X.env = (false, eval e X.env) :: starEach es X.env := by rfl) (hpl : (backTo pos (starEach es X.env)).any (·.1) = false := by rfl) :
    PE X (.Call (.Name x p) (e :: es) [] pos) (tMake C sp [] E t) := by
  obtain ⟨f, fd, M, hb, F⟩ := c.ex
  exact pe_make M F hr hg c.at_ hb .nil hx ha hdb he hpl
theorem pe_mk0 (c : CalI X.prog X.w X.K X.mg X.base CX k x C ps sp) (hr : Room (k + 1) X.A) (hx : Passes CX X E) (hg : Gl X x := by rfl)
    (hdb : (x == ("__debug__" : Str)) = false := by decide) : PE X (.Call (.Name x p) [] [] pos) (tMake C sp [] E tNil) := by
  obtain ⟨f, fd, M, hb, F⟩ := c.ex
  exact pe_make0 M F hr hg c.at_ hb .nil hx hdb
end
end Sd

/-! rules of mine -/
namespace Sd
open PySem PySem.Spec PyProof.Rows L2 PySem.W
section
variable {X : Cx}
/-- x not in d, d a written dict with text keys -/
def rNotKD (K : PySem.W.Frag) (w : World) : R2 := fun x y H Q => ∃ (z : Str) (p : Addr) (es : Array DictEntry) (n : Nat) (r : Option Value), x = .str z ∧ y = .ref p ∧ K.lookup p = some ⟨.type "dict", none, .dict es n, #[]⟩ ∧ PySem.W.KeysLit w.params es.toList ∧
  (p == sysModules) = false ∧ PySem.W.nsIn K p z = some r ∧ Q (.bl (!r.isSome)) H
theorem op_notKD : OpR X (compareOp .NotIn) (rNotKD X.K X.w) := by
  intro pins s σ H x y v u Q I rx ry h
  obtain ⟨z, p, es, n, r, rfl, rfl, hl, hk, lo, e, q⟩ := h
  obtain ⟨t, rfl⟩ := rx
  obtain rfl : u = Value.ref p := ry
  refine wpAny_notIn_of (strKind_is X.prog X.w z t) lo (PySem.W.mapOf_K (prog := X.prog) (w := X.w) I.kIn hl hk) ?_
  rw [PySem.W.find_K hl e]
  exact ⟨.bl (!r.isSome), H, I.tok _, rfl, q⟩
/-- xs[i] as the read of xs[i] op= e -/
theorem pget_list : PGet X (rIxL X.K) := by
  intro pins s σ H x y v u Q I rx ry h
  obtain ⟨p, xs, i, z, rfl, rfl, hq, he, q⟩ := h
  cases rx
  obtain ⟨t, rfl⟩ := ry
  obtain ⟨its, r, pl, hz⟩ := I.list hq
  obtain ⟨j, h1, h2, h3, h4, h5⟩ := atI_get he
  obtain ⟨w, ew, rw'⟩ := r.get h2
  have hl := r.length
  have hn := line63
  have fin : EP X pins σ Q w s := ⟨z, H, I, rw', q⟩
  by_cases h0 : 0 ≤ i
  · have hj : i.toNat = j := by
      rw [seqIndex_of h0 h5] at h1
      exact Option.some.inj h1
    exact wpAny_getItem_list pl.isList h0 (by omega) (by rw [hj]; simpa using ew) fin
  · have hj : (i + (its.toArray.size : Int)).toNat = j := by
      rw [seqIndex_neg (by omega) h4] at h1
      rw [List.size_toArray, ← hl]
      exact Option.some.inj h1
    exact wpAny_getItem_list_neg pl.isList (by omega) (by rw [List.size_toArray] <;> omega) (by omega) (by rw [hj]; simpa using ew) fin
/-- max(xs, default=d), ints -/
def rMaxDef (K : PySem.W.Frag) : List V → List V → Hp → VK → Prop := fun vs zs H Q => ∃ (a : Addr) (ns : List Int) (d : V), vs = [V.ref a] ∧ zs = [d] ∧ SqL K H a (ns.map V.int) ∧ (ns = [] → Q d H) ∧ ∀ m, m ∈ ns → (∀ y, y ∈ ns → y ≤ m) → Q (.int m) H
/-- min of a list of tuples of ints -/
def rMinT (K : PySem.W.Frag) : List V → Hp → VK → Prop := fun vs H Q => ∃ (a : Addr) (bs : List (Addr × List Int)), vs = [V.ref a] ∧ SqL K H a (bs.map fun b => V.ref b.1) ∧ (∀ b ∈ bs, SqT K H b.1 (b.2.map V.int)) ∧ bs ≠ [] ∧ bs.length < 100000 ∧
  ∀ b ∈ bs, (∀ c ∈ bs, listLt c.2 b.2 = false) → Q (.ref b.1) H
theorem maxOf_int (x : Int) (xs : List Int) : maxOf x xs ∈ x :: xs ∧ ∀ y ∈ x :: xs, y ≤ maxOf x xs := by
  unfold maxOf
  induction xs generalizing x with
  | nil => exact ⟨List.mem_cons_self, fun y hy => by rw [List.mem_singleton.mp hy]; exact Int.le_refl _⟩
  | cons z zs ih =>
    rw [List.foldl_cons]
    obtain ⟨h1, h2⟩ := ih (if DatumOrd.lt x z = true then z else x)
    have e : DatumOrd.lt x z = decide (x < z) := rfl
    by_cases c : x < z
    · rw [e, decide_eq_true c, if_pos rfl] at h1 h2 ⊢
      refine ⟨List.mem_cons_of_mem _ h1, fun y hy => ?_⟩
      rcases List.mem_cons.mp hy with rfl | hy
      · exact Int.le_trans (Int.le_of_lt c) (h2 z List.mem_cons_self)
      · exact h2 y hy
    · rw [e, decide_eq_false c, if_neg Bool.false_ne_true] at h1 h2 ⊢
      refine ⟨?_, fun y hy => ?_⟩
      · rcases List.mem_cons.mp h1 with h1 | h1
        · rw [h1]; exact List.mem_cons_self
        · exact List.mem_cons_of_mem _ (List.mem_cons_of_mem _ h1)
      · rcases List.mem_cons.mp hy with rfl | hy
        · exact h2 y List.mem_cons_self
        · rcases List.mem_cons.mp hy with rfl | hy
          · exact Int.le_trans (by omega) (h2 x List.mem_cons_self)
          · exact h2 y (List.mem_cons_of_mem _ hy)
theorem cr_maxDef (hc : X.calm = true) (hu : X.A.units + 64 < cLine) : CallRK X (.builtin "max") ["default"] (rMaxDef X.K) := by
  intro pins s σ H xs zs us ws Q I r1 r2 h
  obtain ⟨a, ns, d, rfl, rfl, hs, q0, q⟩ := h
  obtain ⟨its, rv, hl, _⟩ := I.list hs
  rw [Vals.ref1 r1]
  cases r2 with
  | cons rd rn =>
    cases rn
    rename_i wd
    refine max_list_datum_default (α := Int) (d := wd) (I.ok.hd hc) hl.isList (HoldAll.of_ints rv.ints) (by show X.A.units + 1 + 0 < cLine; omega) (fun e h' tk hk => ⟨d, H, I.kept hk, rd, q0 e⟩) fun y ys i v h' tk e hi Hm hk => ?_
    obtain ⟨m1, m2⟩ := maxOf_int y ys
    obtain ⟨as, rr⟩ := Hm
    have hv : ∃ t, v = .int (maxOf y ys) t := by
      cases (show Reads h' v (.int (maxOf y ys)) as from rr) with
      | int i t => exact ⟨t, rfl⟩
    obtain ⟨t, rfl⟩ := hv
    exact ⟨.int (maxOf y ys), H, I.kept hk, ⟨t, rfl⟩, q _ (by rw [e]; exact m1) (by rw [e]; exact m2)⟩
theorem lLt_irr : ∀ a : List Int, listLt a a = false
  | [] => rfl
  | x :: xs => by
    show (if x = x then listLt xs xs else _) = false
    rw [if_pos rfl]
    exact lLt_irr xs
theorem lLt_tr : ∀ a b c : List Int, listLt a b = true → listLt b c = true → listLt a c = true
  | [], [], _, h, _ => by cases h
  | [], _ :: _, [], _, h => by cases h
  | [], _ :: _, _ :: _, _, _ => rfl
  | _ :: _, [], _, h, _ => by cases h
  | _ :: _, _ :: _, [], _, h => by cases h
  | x :: xs, y :: ys, z :: zs, h, k => by
    have h' : (if x = y then listLt xs ys else decide (x < y)) = true := h
    have k' : (if y = z then listLt ys zs else decide (y < z)) = true := k
    show (if x = z then listLt xs zs else decide (x < z)) = true
    by_cases c1 : x = y
    · rw [if_pos c1] at h'
      by_cases c2 : y = z
      · rw [if_pos c2] at k'
        rw [if_pos (c1.trans c2)]
        exact lLt_tr xs ys zs h' k'
      · rw [if_neg c2] at k'
        rw [c1, if_neg c2]
        exact k'
    · rw [if_neg c1] at h'
      have h1 := of_decide_eq_true h'
      by_cases c2 : y = z
      · rw [← c2, if_neg c1]
        exact h'
      · rw [if_neg c2] at k'
        have k1 := of_decide_eq_true k'
        rw [if_neg (by omega)]
        exact decide_eq_true (by omega)
theorem lLt_tri : ∀ a b : List Int, listLt a b = true ∨ a = b ∨ listLt b a = true
  | [], [] => .inr (.inl rfl)
  | [], _ :: _ => .inl rfl
  | _ :: _, [] => .inr (.inr rfl)
  | x :: xs, y :: ys => by
    show (if x = y then listLt xs ys else decide (x < y)) = true ∨ x :: xs = y :: ys ∨ (if y = x then listLt ys xs else decide (y < x)) = true
    by_cases c : x = y
    · rw [if_pos c, if_pos c.symm]
      rcases lLt_tri xs ys with h | h | h
      · exact .inl h
      · exact .inr (.inl (by rw [c, h]))
      · exact .inr (.inr h)
    · rw [if_neg c, if_neg (Ne.symm c)]
      by_cases d : x < y
      · exact .inl (decide_eq_true d)
      · exact .inr (.inr (decide_eq_true (by omega)))
theorem lMin_no {x y m : List Int} (c : ¬ listLt y x = true) (hx : listLt x m = false) (f : listLt y m = true) : False := by
  rcases lLt_tri y x with h | h | h
  · exact c h
  · rw [h, hx] at f
    cases f
  · have := lLt_tr _ _ _ h f
    rw [hx] at this
    cases this
theorem minOf_tup (x : Tup Int) (xs : List (Tup Int)) : ∀ y ∈ x :: xs, listLt y.items (minOf x xs).items = false := by
  unfold minOf
  induction xs generalizing x with
  | nil =>
    intro y hy
    rw [List.mem_singleton.mp hy]
    exact lLt_irr _
  | cons z zs ih =>
    rw [List.foldl_cons]
    have e : DatumOrd.lt z x = listLt z.items x.items := rfl
    have h := ih (if DatumOrd.lt z x = true then z else x)
    intro y hy
    by_cases c : listLt z.items x.items = true
    · rw [e, c, if_pos rfl] at h ⊢
      rcases List.mem_cons.mp hy with rfl | hy
      · cases f : listLt y.items (List.foldl (fun a y => if DatumOrd.lt y a = true then y else a) z zs).items with
        | false => rfl
        | true =>
          have := lLt_tr _ _ _ c f
          rw [h z List.mem_cons_self] at this
          cases this
      · exact h y hy
    · rw [e, if_neg c] at h ⊢
      rcases List.mem_cons.mp hy with rfl | hy
      · exact h y List.mem_cons_self
      · rcases List.mem_cons.mp hy with rfl | hy
        · cases f : listLt y.items (List.foldl (fun a y => if DatumOrd.lt y a = true then y else a) x zs).items with
          | false => rfl
          | true =>
            -- the least is not less than x, and y is not less than x
            exfalso
            have hx := h x List.mem_cons_self
            exact lMin_no c hx f
        · exact h y (List.mem_cons_of_mem _ hy)
theorem dpTups {K : PySem.W.Frag} {H : Hp} : ∀ bs : List (Addr × List Int), (∀ b ∈ bs, SqT K H b.1 (b.2.map V.int)) → DpAll K H (bs.map fun b => V.ref b.1) (bs.map fun b => PyData.tuple (b.2.map PyData.int))
  | [], _ => .nil
  | b :: bs, h => .cons (.tup (h b List.mem_cons_self) (dInts_all b.2)) (dpTups bs fun c hc => h c (List.mem_cons_of_mem _ hc))
theorem toD_tups (bs : List (Addr × List Int)) : (bs.map fun b => (⟨b.2⟩ : Tup Int)).map Datum.toD = bs.map fun b => PyData.tuple (b.2.map PyData.int) := by
  rw [List.map_map]
  rfl
theorem ints_inj : ∀ {a b : List Int}, a.map PyData.int = b.map PyData.int → a = b
  | [], [], _ => rfl
  | [], _ :: _, h => by cases h
  | _ :: _, [], h => by cases h
  | x :: xs, y :: ys, h => by
    rw [List.map_cons, List.map_cons] at h
    injection h with h1 h2
    injection h1 with h1
    rw [h1, ints_inj h2]
theorem vals_back {xs : List V} {us : List Value} {i : Nat} {u : Value} (r : Vals xs us) (h : us[i]? = some u) : ∃ x, xs[i]? = some x ∧ RelV x u := by
  cases e : xs[i]? with
  | none =>
    rw [r.none_of e] at h
    cases h
  | some x =>
    obtain ⟨w, hw, rw'⟩ := r.get e
    rw [h] at hw
    cases hw
    exact ⟨x, rfl, rw'⟩
theorem cr_minT (hc : X.calm = true) (hu : X.A.units + 64 < cLine) : CallR X (.builtin "min") (rMinT X.K) := by
  intro pins s σ H xs us Q I r h
  obtain ⟨a, bs, rfl, hs, ht, hne, hb, q⟩ := h
  obtain ⟨its, rv, hl, _⟩ := I.list hs
  rw [Vals.ref1 r]
  obtain ⟨as, ra⟩ := Dp.readsAll I (bs.map fun b => PyData.tuple (b.2.map PyData.int)) _ its (dpTups bs ht) rv
  cases bs with
  | nil => exact absurd rfl hne
  | cons b br =>
    have HA : HoldAll s.heap its ((⟨b.2⟩ : Tup Int) :: br.map fun b => ⟨b.2⟩) := ⟨as, by
      have := toD_tups (b :: br)
      rw [List.map_cons] at this
      rw [this]
      exact ra⟩
    refine min_list_datum (α := Tup Int) (I.ok.hd hc) hl.isList HA (by show X.A.units + 1 + 1 < cLine; omega) fun i v h' tk hi Hm hk => ?_
    have hi' : its[i]? = some v := by simpa using hi
    obtain ⟨x, hx, Hx⟩ := HA.at hi'
    obtain ⟨y, hy, ry⟩ := vals_back rv hi'
    rw [List.getElem?_map] at hy
    cases hbi : (b :: br)[i]? with
    | none => rw [hbi] at hy; cases hy
    | some c =>
      rw [hbi] at hy
      cases hy
      have hx2 : x = ⟨c.2⟩ := by
        have e : ((⟨b.2⟩ : Tup Int) :: br.map fun b => ⟨b.2⟩)[i]? = some ⟨c.2⟩ := by
          have := congrArg (Option.map fun b : Addr × List Int => (⟨b.2⟩ : Tup Int)) hbi
          rw [← List.getElem?_map, List.map_cons] at this
          exact this
        rw [e] at hx
        exact (Option.some.inj hx).symm
      subst hx2
      obtain ⟨a1, r1⟩ := Hx.keeps hk
      obtain ⟨a2, r2⟩ := Hm
      have e := (Reads.unique r1 _ _ r2).1
      have e2 : c.2 = (minOf (⟨b.2⟩ : Tup Int) (br.map fun b => ⟨b.2⟩)).items := by
        injection e with e
        exact ints_inj e
      have hc2 : c ∈ b :: br := List.mem_of_getElem? hbi
      refine ⟨.ref c.1, H, I.kept hk, ry, q c hc2 fun d hd => ?_⟩
      rw [e2]
      refine minOf_tup _ _ ⟨d.2⟩ ?_
      have := List.mem_map_of_mem (f := fun b : Addr × List Int => (⟨b.2⟩ : Tup Int)) hd
      rw [List.map_cons] at this
      exact this
def leT (b c : Addr × List Int) : Bool := !listLt c.2 b.2
def rSortT (K : PySem.W.Frag) : List V → Hp → VK → Prop := fun vs H Q => ∃ (a : Addr) (bs : List (Addr × List Int)), vs = [V.ref a] ∧ SqL K H a (bs.map fun b => V.ref b.1) ∧ (∀ b ∈ bs, SqT K H b.1 (b.2.map V.int)) ∧ (∀ b ∈ bs, b.2 ≠ []) ∧ bs.length < 100000 ∧
  ∀ p, H p = none → Q (.ref p) (upd H p (.lst ((bs.mergeSort leT).map fun b => V.ref b.1)))
abbrev encT (b : Addr × List Int) : PyData := .tuple (b.2.map PyData.int)
theorem each_of : ∀ (bs : List (Addr × List Int)) (us : List Value), Vals (bs.map fun b => V.ref b.1) us → EachIs (fun v b => v = Value.ref b.1) us bs
  | [], _, h => by
    cases h
    exact .nil
  | b :: bs, _, h => by
    cases h with
    | cons r t => exact .cons r (each_of bs _ t)
theorem vals_of_each : ∀ (us : List Value) (bs : List (Addr × List Int)), EachIs (fun v b => v = Value.ref b.1) us bs → Vals (bs.map fun b => V.ref b.1) us
  | _, _, .nil => .nil
  | _, _, .cons r t => .cons r (vals_of_each _ _ t)
theorem each_reads {X : Cx} {pins : List (Addr × Obj)} {σ : L2.St} {H : Hp} {s : Shared} (I : Inv X pins σ H s) : ∀ (bs : List (Addr × List Int)) (us : List Value), (∀ b ∈ bs, SqT X.K H b.1 (b.2.map V.int)) → Vals (bs.map fun b => V.ref b.1) us → EachIs (fun v b => ∃ as, Reads s.heap v (encT b) as) us bs
  | [], _, _, h => by
    cases h
    exact .nil
  | b :: bs, _, ht, h => by
    cases h with
    | cons r t => exact .cons (Dp.reads I (encT b) _ _ (.tup (ht b List.mem_cons_self) (dInts_all b.2)) r) (each_reads I bs _ (fun c hc => ht c (List.mem_cons_of_mem _ hc)) t)
theorem dataLe_T : dataLe false encT = leT := by
  funext b c
  show (!dataLt (encT c) (encT b)) = _
  have e := DatumOrd.lt_eq (⟨c.2⟩ : Tup Int) ⟨b.2⟩
  have e2 : dataLt (encT c) (encT b) = DatumOrd.lt (⟨c.2⟩ : Tup Int) ⟨b.2⟩ := e
  rw [e2]
  rfl
theorem cr_sortT (hu : X.A.units + 64 < cLine) : CallR X (.builtin "sorted") (rSortT X.K) := by
  intro pins s σ H xs us Q I r h
  obtain ⟨a, bs, rfl, hs, ht, hne, hb, q⟩ := h
  obtain ⟨its, rv, hl, _⟩ := I.list hs
  rw [Vals.ref1 r]
  have hk : Sortable (bs.map encT) := by
    refine .inl fun d hd => ?_
    obtain ⟨b, hb2, rfl⟩ := List.mem_map.mp hd
    have := hne b hb2
    cases e : b.2 with
    | nil => exact absurd e this
    | cons x r =>
      rw [encT, e]
      exact ⟨_, _, rfl⟩
  refine sorted_data (R := fun v (b : Addr × List Int) => v = Value.ref b.1) (enc := encT) hl.isList (each_of bs its rv) ?_ ?_ hk ?_ ?_ fun out ho hE => ?_
  · exact each_reads I bs its ht rv
  · exact AllAlike.of fun b b' => by
      show alike (.tuple _) (.tuple _) = true
      simp only [alike]
      exact alike_ints _ _
  · exact Nat.le_trans (Nat.le_of_lt hb) (by decide)
  · intro b _
    show X.A.units + 2 + (PyData.depth (.tuple (b.2.map PyData.int))) < cLine
    have : PyData.depth (.tuple (b.2.map PyData.int)) = PyData.depthAll (b.2.map PyData.int) + 1 := rfl
    rw [this, Sd.depth_ints]
    omega
  · rw [dataLe_T] at hE
    obtain ⟨ep, he'⟩ := PyProof.Rows.sortedAll_at s.heap its out.toArray
    have hlen : ((bs.mergeSort leT).map fun b => V.ref b.1).length ≤ sizeLine := by
      rw [List.length_map, List.length_mergeSort]
      exact Nat.le_trans (Nat.le_of_lt hb) (by decide)
    exact ⟨.ref _, upd H (s.heap.objs.size + 1) (.lst ((bs.mergeSort leT).map fun b => V.ref b.1)), I.laid (t' := s.toks) (fun _ _ => PyProof.Rows.sortedAll_old) (Nat.le_succ _) ⟨hlen, out, ep, vals_of_each _ _ hE, he'⟩, rfl, q _ (I.hok.fresh (Nat.le_succ _))⟩
end
end Sd
/-! rules within a comprehension: the written part by its name -/
namespace Sd
open PySem L2
theorem ixK {X : Cx} {K : PySem.W.Frag} {r : PySem.W.Frag → R2} (q : IxR X (r X.K)) (h : X.K = K) : IxR X (r K) := h ▸ q
theorem opK {X : Cx} {K : PySem.W.Frag} {f : Value → Value → Sem Value} {r : PySem.W.Frag → R2} (q : OpR X f (r X.K)) (h : X.K = K) : OpR X f (r K) := h ▸ q
theorem slK {X : Cx} {K : PySem.W.Frag} {r : PySem.W.Frag → V → Option Int → Option Int → Hp → VK → Prop} (q : SlR X (r X.K)) (h : X.K = K) : SlR X (r K) := h ▸ q
theorem callK {X : Cx} {K : PySem.W.Frag} {f : Value} {r : PySem.W.Frag → List V → Hp → VK → Prop} (q : CallR X f (r X.K)) (h : X.K = K) : CallR X f (r K) := h ▸ q
def rListOf (K : PySem.W.Frag) : List V → Hp → VK → Prop := fun xs H Q => ∃ p ys, xs = [.ref p] ∧ (SqL K H p ys ∨ SqT K H p ys) ∧ ∀ l, H l = none → Q (.ref l) (upd H l (.lst ys))
theorem call_list_ofK {X : Cx} {K : PySem.W.Frag} (h : X.K = K) : CallR X (.type "list") (rListOf K) := callK (r := rListOf) call_list_of h
end Sd
/-! truth within a comprehension -/
namespace Sd
open PySem L2
def tTruK (K : PySem.W.Frag) (ta : TE) : TT := fun σ H Q => ta σ H fun x H' => ∃ k, TruV K x H' k ∧ Q k H'
theorem pt_truthK {X : Cx} {K : PySem.W.Frag} {a : Expr} {ta : TE} (hK : X.K = K) (ha : PE X a ta) (he : ∀ whole, isTrue a X.env whole = (do let v ← whole; standAt a.pos; holding [v] (truthy v))) :
    PT X a (tTruK K ta) := hK ▸ pt_truth ha he
end Sd

/-! the draws of a script: _law_cell, _law_dice, _law_off -/
namespace Sd
open PySem L2
theorem b01 (c : Bool) : -(2 ^ 64) < (if c = true then (1 : Int) else 0) ∧ (if c = true then (1 : Int) else 0) < 2 ^ 64 := by
  cases c with
  | true =>
    rw [if_pos rfl]
    decide
  | false =>
    rw [if_neg Bool.false_ne_true]
    decide
def spCell (K : PySem.W.Frag) : Sp := fun vs H Q _ => ∃ (a : Addr) (ns : List Int) (k : Int), vs = [.ref a, .int k] ∧ 0 ≤ k ∧ SqL K H a (ns.map V.int) ∧ ∀ v : Int, Q (.int v) H
/-- what the draws go on with stands at d: four things, the second one the script's list -/
def Dice (H : Hp) (d a : Addr) : Prop := ∃ n k g : Int, H d = some (.lst [.int n, .ref a, .int k, .int g])
theorem Dice.but {H H' : Hp} {d a e : Addr} (h : Dice H d a) (b : But e H H') (n : d ≠ e) : Dice H' d a := by
  obtain ⟨x, k, g, h⟩ := h
  exact ⟨x, k, g, b _ _ n h⟩
theorem Dice.same {H H' : Hp} {d a : Addr} (h : Dice H d a) (s : Same H H') : Dice H' d a := by
  obtain ⟨x, k, g, h⟩ := h
  exact ⟨x, k, g, s _ _ h⟩
theorem Dice.some {H : Hp} {d a : Addr} (h : Dice H d a) : ∃ u, H d = some u := by
  obtain ⟨x, k, g, h⟩ := h
  exact ⟨_, h⟩
theorem Dice.ne {H : Hp} {d a p : Addr} (h : Dice H d a) (n : H p = none) : d ≠ p := by
  obtain ⟨x, k, g, h⟩ := h
  exact ne_of_none h n
/-- the script stands, whatever the draws' list becomes -/
theorem Dice.seq {K : PySem.W.Frag} {H H' : Hp} {d a : Addr} {ns : List Int} (h : Dice H d a) (b : But d H H') (s : SqL K H a (ns.map V.int)) : SqL K H' a (ns.map V.int) := by
  obtain ⟨n, k, g, h⟩ := h
  refine Sd.SqL.keep s b h (fun e => ?_)
  cases ns with
  | nil => cases e
  | cons x r =>
    cases r with
    | nil => cases e
    | cons y r =>
      have e2 := (List.cons.inj (List.cons.inj e).2).1
      cases e2
theorem Dice.ne_ints {H : Hp} {d a l : Addr} {xs : List Int} (h : Dice H d a) (hl : H l = Option.some (.lst (xs.map V.int))) : l ≠ d := fun z => by
  obtain ⟨n, k, g, h⟩ := h
  rw [z, h] at hl
  have e := (HO.lst.inj (Option.some.inj hl))
  cases xs with
  | nil => cases e
  | cons x r =>
    cases r with
    | nil => cases e
    | cons y r => cases (List.cons.inj (List.cons.inj e).2).1
def spDice (K : PySem.W.Frag) : Sp := fun vs H Q _ => ∃ (a : Addr) (ns : List Int) (k : Int), vs = [.ref a, .int k] ∧ 0 ≤ k ∧ SqL K H a (ns.map V.int) ∧
  ∀ (p : Addr) (H' : Hp), H p = none → Same H H' → But p H H' → Dice H' p a → (∀ b, b ≠ p → H' b = H b) → Q (.ref p) H'
def spOff (K : PySem.W.Frag) : Sp := fun vs H Q _ => ∃ (d a : Addr) (ns : List Int) (m : Int), vs = [.ref d, .int m] ∧ Dice H d a ∧ SqL K H a (ns.map V.int) ∧ 0 < m ∧ m < 1073741824 ∧
  ∀ (r : Int) (H' : Hp), 0 ≤ r → r < m → Dice H' d a → (∀ b, b ≠ d → H' b = H b) → Q (.int r) H'
end Sd

/-! deeds, answers, the five things: plain words -/
namespace Sd
inductive Deed
  | one | count | set (n : Int) | look | add (n : Int) | sum | rais (n : Int) | top | give (n : Int) | take
  deriving DecidableEq
namespace Deed
/-- the number is one that a deed may have -/
def ok : Deed → Prop
  | set n => 0 ≤ n ∧ n ≤ 999 | add n => 0 ≤ n ∧ n ≤ 999 | rais n => 0 ≤ n ∧ n ≤ 999 | give n => 0 ≤ n ∧ n ≤ 999
  | _ => True
def most : Deed → Int → Int
  | one, _ => 1 | count, m => m | give _, m => m + 1 | take, m => 2 * m
  | look, m => m * (m + 1) | sum, m => m * (m + 1) | top, m => m * (m + 1)
  | set _, m => m * (m + 1) + 1 | add _, m => m * (m + 1) + 1 | rais _, m => m * (m + 1) + 1
def thing : Deed → Nat
  | one | count => 0
  | set _ | look => 1
  | add _ | sum => 2
  | rais _ | top => 3
  | give _ | take => 4
/-- it changes its thing by a put -/
def puts : Deed → Bool
  | one | set _ | add _ | rais _ | give _ => true
  | _ => false
/-- it tells of a thing without takes -/
def tells : Deed → Bool
  | count | look | sum | top => true
  | _ => false
end Deed
inductive Ans
  | non | int (n : Int) | view (cs : List Int)
  deriving DecidableEq
/-- the greatest of the list, 0 at the least -/
def top0 (l : List Int) : Int := l.foldl (fun a b => if b > a then b else a) 0
/-- the program's five things -/
structure St5 where
  ones : Int
  cells : List Int
  added : Int
  top : Int
  line : List Int
  deriving DecidableEq
def St5.first (m : Nat) : St5 := ⟨0, List.replicate m 0, 0, 0, []⟩
def St5.ans (s : St5) : Deed → Ans
  | .count => .int s.ones
  | .look => .view s.cells
  | .sum => .int s.added
  | .top => .int s.top
  | .take => match s.line with
    | [] => .non
    | g :: _ => .int g
  | _ => .non
def St5.behind (s : St5) (h : Nat) : Deed → St5
  | .one => { s with ones := s.ones + 1 }
  | .set n => { s with cells := s.cells.set h n }
  | .add n => { s with added := s.added + n }
  | .rais n => { s with top := if n > s.top then n else s.top }
  | .give n => { s with line := s.line ++ [n] }
  | .take => { s with line := s.line.drop 1 }
  | _ => s
/-- sizes that the rules want -/
structure St5.Ok (s : St5) (m : Nat) : Prop where
  cells : s.cells.length = m
  line : s.line.length ≤ 10000
end Sd

/-! the law's own five things, plain words -/
namespace Sd
structure L5 where
  ones : Int
  cells : List Int
  adds : List Int
  tops : List Int
  line : List Int
def L5.first (m : Nat) : L5 := ⟨0, List.replicate m 0, List.replicate m 0, List.replicate m 0, []⟩
def L5.ans (s : L5) : Deed → Ans
  | .count => .int s.ones
  | .look => .view s.cells
  | .sum => .int s.adds.sum
  | .top => .int (top0 s.tops)
  | .take => match s.line with
    | [] => .non
    | g :: _ => .int g
  | _ => .non
def L5.behind (s : L5) (h : Nat) : Deed → L5
  | .one => { s with ones := s.ones + 1 }
  | .set n => { s with cells := s.cells.set h n }
  | .add n => { s with adds := s.adds.set h (s.adds.getD h 0 + n) }
  | .rais n => { s with tops := s.tops.set h (if n > s.tops.getD h 0 then n else s.tops.getD h 0) }
  | .give n => { s with line := s.line ++ [n] }
  | .take => { s with line := s.line.drop 1 }
  | _ => s
structure L5.Ok (s : L5) (m : Nat) : Prop where
  cells : s.cells.length = m
  adds : s.adds.length = m
  tops : s.tops.length = m
  tops0 : ∀ x ∈ s.tops, 0 ≤ x
  line : s.line.length ≤ 10000
/-- the two ways to hold them -/
structure Sim (s : St5) (l : L5) : Prop where
  ones : s.ones = l.ones
  cells : s.cells = l.cells
  added : s.added = l.adds.sum
  top : s.top = top0 l.tops
  line : s.line = l.line
theorem foldl_max (l : List Int) : ∀ a : Int, (∀ x ∈ l, x ≤ l.foldl (fun a b => if b > a then b else a) a) ∧ a ≤ l.foldl (fun a b => if b > a then b else a) a ∧ (l.foldl (fun a b => if b > a then b else a) a = a ∨ l.foldl (fun a b => if b > a then b else a) a ∈ l) := by
  induction l with
  | nil => exact fun a => ⟨fun x h => (List.not_mem_nil h).elim, Int.le_refl _, Or.inl rfl⟩
  | cons y l ih =>
    intro a
    obtain ⟨h1, h2, h3⟩ := ih (if y > a then y else a)
    rw [List.foldl_cons]
    refine ⟨fun x hx => ?_, ?_, ?_⟩
    · rcases List.mem_cons.mp hx with rfl | hx
      · refine Int.le_trans ?_ h2
        split <;> omega
      · exact h1 x hx
    · refine Int.le_trans ?_ h2
      split <;> omega
    · rcases h3 with h3 | h3
      · rw [h3]
        split
        · exact .inr List.mem_cons_self
        · exact .inl rfl
      · exact .inr (List.mem_cons_of_mem _ h3)
theorem top0_of {l : List Int} (h0 : ∀ x ∈ l, 0 ≤ x) {m : Int} (hm : m ∈ l) (h : ∀ y, y ∈ l → y ≤ m) : m = top0 l := by
  obtain ⟨h1, h2, h3⟩ := foldl_max l 0
  have e1 := h1 m hm
  rcases h3 with h3 | h3
  · have := h0 m hm
    show m = List.foldl _ 0 l
    omega
  · have := h _ h3
    show m = List.foldl _ 0 l
    omega
theorem sum_set (l : List Int) : ∀ (h : Nat) (n : Int), h < l.length → (l.set h (l.getD h 0 + n)).sum = l.sum + n := by
  induction l with
  | nil => intro h n hh; exact absurd hh (Nat.not_lt_zero _)
  | cons x l ih =>
    intro h n hh
    cases h with
    | zero =>
      rw [List.set_cons_zero, List.sum_cons, List.sum_cons, List.getD_cons_zero]
      omega
    | succ h =>
      rw [List.set_cons_succ, List.sum_cons, List.sum_cons, List.getD_cons_succ, ih h n (by rw [List.length_cons] at hh; omega)]
      omega
theorem le_top0 {l : List Int} {x : Int} (h : x ∈ l) : x ≤ top0 l := (foldl_max l 0).1 x h
theorem top0_nn (l : List Int) : 0 ≤ top0 l := (foldl_max l 0).2.1
theorem top0_le {l : List Int} {m : Int} (h0 : 0 ≤ m) (h : ∀ x ∈ l, x ≤ m) : top0 l ≤ m := by
  rcases (foldl_max l 0).2.2 with e | e
  · show List.foldl _ 0 l ≤ m
    omega
  · exact h _ e
theorem top0_setz {l : List Int} (h : Nat) (n z : Int) (hn : 0 ≤ n) (hh : h < l.length) (z1 : n ≤ z) (z2 : l.getD h 0 ≤ z) (z3 : z = n ∨ z = l.getD h 0) :
    top0 (l.set h z) = if n > top0 l then n else top0 l := by
  have hg : l.getD h 0 ∈ l := by
    rw [List.getD_eq_getElem?_getD, List.getElem?_eq_getElem hh]
    exact List.getElem_mem hh
  have hg1 := le_top0 hg
  have hz : z ∈ l.set h z := List.mem_set hh _
  have hz1 := le_top0 hz
  have nn := top0_nn l
  apply Int.le_antisymm
  · refine top0_le ?_ fun x hx => ?_
    · split <;> omega
    · rcases List.mem_or_eq_of_mem_set hx with e | e
      · have := le_top0 e
        split <;> omega
      · rw [e]
        split <;> omega
  · split
    · omega
    · rcases (foldl_max l 0).2.2 with e | e
      · have e' : top0 l = 0 := e
        have := top0_nn (l.set h z)
        omega
      · have e' : top0 l ∈ l := e
        obtain ⟨j, hj, ej⟩ := List.mem_iff_getElem.mp e'
        by_cases c : j = h
        · subst c
          have e2 : l.getD j 0 = top0 l := by rw [List.getD_eq_getElem?_getD, List.getElem?_eq_getElem hj]; exact ej
          omega
        · have hm : l[j] ∈ l.set h z := by
            refine List.mem_iff_getElem.mpr ⟨j, by rw [List.length_set]; exact hj, ?_⟩
            rw [List.getElem_set_ne (Ne.symm c)]
          have := le_top0 hm
          omega
theorem top0_set {l : List Int} (h : Nat) (n : Int) (hn : 0 ≤ n) (hh : h < l.length) :
    top0 (l.set h (if n > l.getD h 0 then n else l.getD h 0)) = if n > top0 l then n else top0 l := by
  refine top0_setz h n _ hn hh ?_ ?_ ?_
  · split <;> omega
  · split <;> omega
  · split
    · exact .inl rfl
    · exact .inr rfl
theorem Sim.ans {s : St5} {l : L5} (h : Sim s l) (d : Deed) : s.ans d = l.ans d := by
  cases d with
  | count => exact congrArg Ans.int h.ones
  | look => exact congrArg Ans.view h.cells
  | sum => exact congrArg Ans.int h.added
  | top => exact congrArg Ans.int h.top
  | take =>
    have e := h.line
    unfold St5.ans L5.ans
    rw [e]
  | _ => rfl
theorem Sim.behind {s : St5} {l : L5} {m h : Nat} {d : Deed} (q : Sim s l) (o : l.Ok m) (hh : h < m) (hd : d.ok) : Sim (s.behind h d) (l.behind h d) := by
  obtain ⟨e1, e2, e3, e4, e5⟩ := q
  cases d with
  | one => exact ⟨by show s.ones + 1 = l.ones + 1; rw [e1], e2, e3, e4, e5⟩
  | set n => exact ⟨e1, by show s.cells.set h n = l.cells.set h n; rw [e2], e3, e4, e5⟩
  | add n => exact ⟨e1, e2, by show s.added + n = _; rw [e3]; exact (sum_set l.adds h n (by rw [o.adds]; exact hh)).symm, e4, e5⟩
  | rais n => exact ⟨e1, e2, e3, by show (if n > s.top then n else s.top) = _; rw [e4]; exact (top0_set h n hd.1 (by rw [o.tops]; exact hh)).symm, e5⟩
  | give n => exact ⟨e1, e2, e3, e4, by show s.line ++ [n] = l.line ++ [n]; rw [e5]⟩
  | take => exact ⟨e1, e2, e3, e4, by show s.line.drop 1 = l.line.drop 1; rw [e5]⟩
  | _ => exact ⟨e1, e2, e3, e4, e5⟩
theorem L5.Ok.behind {l : L5} {m h : Nat} {d : Deed} (o : l.Ok m) (hd : d.ok) (hl : l.line.length < 10000) : (l.behind h d).Ok m := by
  obtain ⟨o1, o2, o3, o4, o5⟩ := o
  cases d with
  | set n => exact ⟨by show (l.cells.set h n).length = m; rw [List.length_set, o1], o2, o3, o4, o5⟩
  | add n => exact ⟨o1, by show (l.adds.set h _).length = m; rw [List.length_set, o2], o3, o4, o5⟩
  | rais n =>
    refine ⟨o1, o2, by show (l.tops.set h _).length = m; rw [List.length_set, o3], fun x hx => ?_, o5⟩
    rcases List.mem_or_eq_of_mem_set hx with e | e
    · exact o4 x e
    · rw [e]
      have := hd.1
      split <;> omega
  | give n => exact ⟨o1, o2, o3, o4, by show (l.line ++ [n]).length ≤ 10000; rw [List.length_append]; exact hl⟩
  | take => exact ⟨o1, o2, o3, o4, by show (l.line.drop 1).length ≤ 10000; rw [List.length_drop]; omega⟩
  | _ => exact ⟨o1, o2, o3, o4, o5⟩
theorem L5.len_behind (l : L5) (h : Nat) (d : Deed) : (l.behind h d).line.length ≤ l.line.length + 1 := by
  cases d with
  | give n => show (l.line ++ [n]).length ≤ _; rw [List.length_append]; exact Nat.le_refl _
  | take => show (l.line.drop 1).length ≤ _; rw [List.length_drop]; omega
  | _ => exact Nat.le_succ _
theorem sum_zeros (m : Nat) : (List.replicate m (0 : Int)).sum = 0 := by
  induction m with
  | zero => rfl
  | succ m ih => rw [List.replicate_succ, List.sum_cons, ih]; rfl
theorem top0_zeros (m : Nat) : top0 (List.replicate m (0 : Int)) = 0 :=
  Int.le_antisymm (top0_le (Int.le_refl 0) fun x hx => by rw [List.eq_of_mem_replicate hx]; exact Int.le_refl 0) (top0_nn _)
theorem Sim.first (m : Nat) : Sim (St5.first m) (L5.first m) := ⟨rfl, rfl, (sum_zeros m).symm, (top0_zeros m).symm, rfl⟩
theorem L5.Ok.first (m : Nat) : (L5.first m).Ok m := ⟨List.length_replicate, List.length_replicate, List.length_replicate, fun x hx => by rw [List.eq_of_mem_replicate hx]; exact Int.le_refl 0, Nat.zero_le _⟩
end Sd

/-! a mirror of the hall: plain functions -/
namespace Sd
/-- what parted tells -/
def dec (n : Int) : List Int := if h : 1 < n then n % 1000000 :: dec (n / 1000000) else []
termination_by n.toNat
decreasing_by omega
inductive Mark
  | non | mom (n : Int) | gift (h : Nat) (k : Nat)
  deriving DecidableEq
structure Out where
  num : Option Int
  ans : Ans
  mark : Mark
structure Touch where
  hand : Nat
  put : Bool
  place : Nat
  num : Int
  deriving DecidableEq
structure Rec where
  hand : Nat
  deed : Deed
  beg : Nat
  fin : Nat
  ans : Ans
  deriving DecidableEq
structure HandM where
  ended : Nat
  ones : Int
  took : List Nat
  beg : Nat
  out : Option Out
  reading : List Int
  readings : List (List Int)
  steps : Nat
def HandM.new (many : Nat) : HandM := ⟨0, 0, List.replicate many 0, 0, none, [], [], 0⟩
/-- a picture's row -/
def row0 (n : Int) : List Int := if dec n = [] then [0, 0] else dec n
def last (rs : List (List Int)) : List Int := rs.getLastD []
def borrowed (first now : List Int) : List Nat → Option (List Int)
  | [] => none
  | h :: hs => if (row0 (now.getD h 0)).getD 0 0 - (row0 (first.getD h 0)).getD 0 0 ≥ 2 then some ((row0 (now.getD h 0)).drop 2) else borrowed first now hs
def view (many : Nat) (rs : List (List Int)) : Option (List Int) :=
  if rs.length < 2 then none
  else if last rs = last rs.dropLast then some (((last rs).map fun n => (row0 n).getD 0 0).sum :: (last rs).map fun n => (row0 n).getD 1 0)
  else borrowed (rs.headD []) (last rs) (List.range many)
def behindCell (c : Int) : Deed → Int
  | .add n => c + n
  | .rais n => if n > c then n else c
  | .set n => n
  | _ => c
/-- rows of numbers as one -/
def enc : List Int → Int
  | [] => 1
  | x :: xs => x + 1000000 * enc xs
def picOut (many hand : Nat) (d : Deed) (rs : List (List Int)) : Option Out :=
  (view many rs).map fun v =>
    match d with
    | .look => ⟨none, .view (v.drop 1), .mom (v.headD 0)⟩
    | .sum => ⟨none, .int (v.drop 1).sum, .mom (v.headD 0)⟩
    | .top => ⟨none, .int (top0 (v.drop 1)), .mom (v.headD 0)⟩
    | d => ⟨some (enc (((row0 ((last rs).getD hand 0)).getD 0 0 + 1) :: behindCell ((row0 ((last rs).getD hand 0)).getD 1 0) d :: v)), .non, .non⟩
/-- the first gift that is left of each hand that has one: stamp, hand, gift -/
def left (took : List Nat) (rows : List (List Int)) : List (Int × Nat × Int) :=
  (List.range rows.length).filterMap fun h =>
    if 2 * took.getD h 0 < (rows.getD h []).length then some ((rows.getD h []).getD (2 * took.getD h 0 + 1) 0, h, (rows.getD h []).getD (2 * took.getD h 0) 0) else none
/-- the least of them by stamp, then by hand -/
def least : List (Int × Nat × Int) → Option (Int × Nat × Int)
  | [] => none
  | x :: xs => match least xs with
    | none => some x
    | some y => if y.1 < x.1 then some y else some x
def stamp (rows : List (List Int)) : Int := 1 + top0 ((rows.filter fun r => r ≠ []).map fun r => r.getLastD 0)
def lineOut (hand : Nat) (d : Deed) (took : List Nat) (rs : List (List Int)) : Option Out :=
  if rs = [] then none
  else
    let rows := (last rs).map dec
    match d with
    | .give n => some ⟨some (enc (rows.getD hand [] ++ [n, stamp rows])), .non, .gift hand ((rows.getD hand []).length / 2)⟩
    | _ => match least (left took rows) with
      | none => some ⟨none, .non, .non⟩
      | some l => if rs.length < 2 then none else some ⟨none, .int l.2.2, .gift l.2.1 (took.getD l.2.1 0)⟩
def cntOut (d : Deed) (ones : Int) (rs : List (List Int)) : Option Out :=
  match d with
  | .one => some ⟨some (ones + 1), .non, .non⟩
  | _ => if rs = [] then none else some ⟨none, .int (last rs).sum, .mom (last rs).sum⟩
def outOf (many hand : Nat) (d : Deed) (h : HandM) : Option Out :=
  if d.thing = 0 then cntOut d h.ones h.readings else if d.thing = 4 then lineOut hand d h.took h.readings else picOut many hand d h.readings
/-- a deed's end -/
def HandM.done (hand : Nat) (d : Deed) (now : Nat) (o : Out) (h : HandM) : HandM × Rec × Mark :=
  ({ h with
      ones := if d = .one then h.ones + 1 else h.ones
      took := match d, o.mark with
        | .take, .gift g _ => h.took.set g (h.took.getD g 0 + 1)
        | _, _ => h.took
      ended := h.ended + 1
      steps := 0 }, ⟨hand, d, h.beg, now, o.ans⟩, o.mark)
/-- a deed's first step begins it -/
def HandM.start (many hand : Nat) (d : Deed) (now : Nat) (h : HandM) : HandM :=
  if h.steps = 0 then { h with beg := now, readings := [], out := outOf many hand d { h with readings := [] } } else h
def HandM.keep (many hand : Nat) (d : Deed) (n : Int) (h : HandM) : HandM :=
  let r := h.reading ++ [n]
  if r.length = many then { h with readings := h.readings ++ [r], reading := [], out := outOf many hand d { h with readings := h.readings ++ [r] } } else { h with reading := r }
structure Step where
  hand : HandM
  boxes : List Int
  touch : Touch
  ended : Option (Rec × Mark)
def HandM.first (h : HandM) (many hand : Nat) (d : Deed) (now : Nat) : HandM := { h.start many hand d now with steps := h.steps + 1 }
/-- what it takes next -/
def HandM.place (h : HandM) (many : Nat) (d : Deed) : Nat := d.thing * many + h.reading.length
/-- the step's act, the deed being begun -/
def HandM.act (many hand : Nat) (d : Deed) (boxes : List Int) (now : Nat) (h : HandM) : Step :=
  match h.out with
  | some o => ⟨(h.done hand d now o).1, boxes.set (d.thing * many + hand) (o.num.getD 0), ⟨hand, true, d.thing * many + hand, o.num.getD 0⟩, some (h.done hand d now o).2⟩
  | none =>
    match (h.keep many hand d (boxes.getD (h.place many d) 0)).out with
    | none => ⟨h.keep many hand d (boxes.getD (h.place many d) 0), boxes, ⟨hand, false, h.place many d, boxes.getD (h.place many d) 0⟩, none⟩
    | some o =>
      if o.num.isSome then ⟨h.keep many hand d (boxes.getD (h.place many d) 0), boxes, ⟨hand, false, h.place many d, boxes.getD (h.place many d) 0⟩, none⟩
      else ⟨((h.keep many hand d (boxes.getD (h.place many d) 0)).done hand d now o).1, boxes, ⟨hand, false, h.place many d, boxes.getD (h.place many d) 0⟩, some ((h.keep many hand d (boxes.getD (h.place many d) 0)).done hand d now o).2⟩
def HandM.step (many hand : Nat) (d : Deed) (boxes : List Int) (now : Nat) (h : HandM) : Step := HandM.act many hand d boxes now (h.first many hand d now)
structure HallM where
  plans : List (List Deed)
  boxes : List Int
  hands : List HandM
  recs : List Rec
  marks : List Mark
  touches : List Touch
def HallM.many (s : HallM) : Nat := s.plans.length
def HallM.new (plans : List (List Deed)) : HallM := ⟨plans, List.replicate (5 * plans.length) 0, List.replicate plans.length (HandM.new plans.length), [], [], []⟩
def HallM.plan (s : HallM) (i : Nat) : List Deed := s.plans.getD i []
def HallM.hand (s : HallM) (i : Nat) : HandM := s.hands.getD i (HandM.new 0)
/-- a step of hand i: none where its plan is at its end -/
def HallM.stepped (s : HallM) (i : Nat) : Option HallM :=
  match (s.plan i)[(s.hand i).ended]? with
  | none => none
  | some d =>
    let t := (s.hand i).step s.many i d s.boxes s.touches.length
    some { s with
      boxes := t.boxes
      hands := s.hands.set i t.hand
      touches := s.touches ++ [t.touch]
      recs := s.recs ++ (t.ended.map (·.1)).toList
      marks := s.marks ++ (t.ended.map (·.2)).toList }
def HallM.step (s : HallM) (i : Nat) : HallM := (s.stepped i).getD s
def HallM.weave (s : HallM) (row : List Nat) : HallM := row.foldl HallM.step s
end Sd

/-! rows of numbers as one: there and back -/
namespace Sd
def In6 (l : List Int) : Prop := ∀ x ∈ l, 0 ≤ x ∧ x < 1000000
theorem In6.nil : In6 [] := fun x h => by cases h
theorem In6.tail {x : Int} {l : List Int} (h : In6 (x :: l)) : In6 l := fun y hy => h y (List.mem_cons_of_mem _ hy)
theorem In6.drop {l : List Int} (h : In6 l) (k : Nat) : In6 (l.drop k) := fun y hy => h y (List.mem_of_mem_drop hy)
theorem In6.get {l : List Int} (h : In6 l) {k : Nat} {v : Int} (e : l[k]? = some v) : 0 ≤ v ∧ v < 1000000 := h v (List.mem_of_getElem? e)
theorem In6.append {l r : List Int} (h : In6 l) (k : In6 r) : In6 (l ++ r) := fun x hx => (List.mem_append.mp hx).elim (h x) (k x)
theorem In6.cons {x : Int} {l : List Int} (h0 : 0 ≤ x) (h1 : x < 1000000) (h : In6 l) : In6 (x :: l) := fun y hy => by
  rcases List.mem_cons.mp hy with rfl | hy
  · exact ⟨h0, h1⟩
  · exact h y hy
theorem enc_pos : ∀ {l : List Int}, In6 l → 1 ≤ enc l
  | [], _ => by decide
  | x :: l, h => by
    have h1 := enc_pos h.tail
    have h2 := h x List.mem_cons_self
    show 1 ≤ x + 1000000 * enc l
    omega
theorem enc_cons (x : Int) (l : List Int) : enc (x :: l) = x + 1000000 * enc l := rfl
theorem enc_big {x : Int} {l : List Int} (h : In6 (x :: l)) : 1 < enc (x :: l) := by
  have h1 := enc_pos h.tail
  have h2 := h x List.mem_cons_self
  rw [enc_cons]
  omega
theorem enc_mod {x : Int} {l : List Int} (h : In6 (x :: l)) : enc (x :: l) % 1000000 = x := by
  have h2 := h x List.mem_cons_self
  rw [enc_cons]
  omega
theorem enc_div {x : Int} {l : List Int} (h : In6 (x :: l)) : enc (x :: l) / 1000000 = enc l := by
  have h2 := h x List.mem_cons_self
  rw [enc_cons]
  omega
theorem drop_at {l : List Int} {k : Nat} {v : Int} (e : l[k]? = some v) : l.drop k = v :: l.drop (k + 1) := by
  obtain ⟨h, q⟩ := List.getElem?_eq_some_iff.mp e
  rw [List.drop_eq_getElem_cons h, q]
theorem enc_drop {l : List Int} {k : Nat} {v : Int} (e : l[k]? = some v) : enc (l.drop k) = v + 1000000 * enc (l.drop (k + 1)) := by
  rw [drop_at e]
  rfl
theorem take_at {l : List Int} {k : Nat} {v : Int} (e : l[k]? = some v) : l.take (k + 1) = l.take k ++ [v] := by
  obtain ⟨h, q⟩ := List.getElem?_eq_some_iff.mp e
  rw [List.take_succ_eq_append_getElem h, q]
theorem dec_small {n : Int} (h : ¬ 1 < n) : dec n = [] := by
  unfold dec
  exact dif_neg h
theorem dec_enc : ∀ {l : List Int}, In6 l → dec (enc l) = l
  | [], _ => dec_small (by decide)
  | x :: l, h => by
    unfold dec
    rw [dif_pos (enc_big h), enc_mod h, enc_div h, dec_enc h.tail]
/-- n stands for the row: 0 for the empty one, too -/
def Row (n : Int) (row : List Int) : Prop := In6 row ∧ (n = enc row ∨ (n = 0 ∧ row = []))
theorem Row.dec {n : Int} {row : List Int} (h : Row n row) : dec n = row := by
  rcases h with ⟨h6, rfl | ⟨rfl, rfl⟩⟩
  · exact dec_enc h6
  · exact dec_small (by decide)
theorem Row.zero : Row 0 [] := ⟨In6.nil, .inr ⟨rfl, rfl⟩⟩
theorem Row.of {row : List Int} (h : In6 row) : Row (enc row) row := ⟨h, .inl rfl⟩
theorem Row.inj {n m : Int} {row : List Int} (h : Row n row) (k : Row m row) (e : row ≠ []) : n = m := by
  rcases h with ⟨_, rfl | ⟨_, e1⟩⟩
  · rcases k with ⟨_, rfl | ⟨_, e2⟩⟩
    · rfl
    · exact absurd e2 e
  · exact absurd e1 e
end Sd

/-! what a hand's steps want of the boxes: plain words -/
namespace Sd
def In5 (l : List Int) : Prop := ∀ x ∈ l, 0 ≤ x ∧ x < 900000
theorem In5.six {l : List Int} (h : In5 l) : In6 l := fun x hx => ⟨(h x hx).1, Int.lt_trans (h x hx).2 (by decide)⟩
def PicOk (many : Nat) (n : Int) : Prop := ∃ row, Row n row ∧ In5 row ∧ (row = [] ∨ (row.length = many + 3 ∧ row.getD 0 0 ≤ 1000))
def LineOk (n : Int) : Prop := ∃ row, Row n row ∧ In5 row ∧ row.length ≤ 900 ∧ row.length % 2 = 0
def BoxOk (many t : Nat) (n : Int) : Prop := if t = 0 then True else if t = 4 then LineOk n else PicOk many n
def RdOk (many t : Nat) (r : List Int) : Prop := r.length = many ∧ ∀ n ∈ r, BoxOk many t n
/-- a picture's row, an empty box's too -/
theorem PicOk.row0 {many : Nat} {n : Int} (h : PicOk many n) : ∃ p c v, row0 n = p :: c :: v ∧ In5 (p :: c :: v) ∧ p ≤ 1000 ∧ (dec n = [] ∧ v = [] ∨ dec n ≠ [] ∧ v.length = many + 1) := by
  obtain ⟨row, hr, h5, h⟩ := h
  have e := hr.dec
  unfold Sd.row0
  rw [e]
  rcases h with rfl | ⟨hl, hp⟩
  · refine ⟨0, 0, [], by rw [if_pos rfl], fun x hx => ?_, by decide, .inl ⟨rfl, rfl⟩⟩
    simp only [List.mem_cons, List.not_mem_nil, or_false] at hx
    rcases hx with rfl | rfl <;> decide
  · cases row with
    | nil => rw [List.length_nil] at hl; omega
    | cons p r =>
      cases r with
      | nil => rw [List.length_cons, List.length_nil] at hl; omega
      | cons c v => exact ⟨p, c, v, by rw [if_neg (by simp)], h5, hp, .inr ⟨by simp, by rw [List.length_cons, List.length_cons] at hl; omega⟩⟩
/-- what a step of hand i, whose deed is d, wants -/
structure HandPre (many i : Nat) (d : Deed) (boxes : List Int) (h : HandM) : Prop where
  hi : i < many
  m4 : many ≤ 4
  ok : d.ok
  took : h.took.length = many
  tk : d = .take → i = 0
  bl : boxes.length = 5 * many
  bx : ∀ j, j < many → BoxOk many d.thing (boxes.getD (d.thing * many + j) 0)
  rdl : h.reading.length < many
  rd : ∀ n ∈ h.reading, BoxOk many d.thing n
  rd0 : h.steps = 0 → h.reading = []
  rds : h.steps ≠ 0 → ∀ r ∈ h.readings, RdOk many d.thing r
  out : h.steps ≠ 0 → ∀ o, h.out = some o → o.num.isSome = true ∧ d.puts = true
  len : h.readings.length < 1000
theorem last_cons (a : List Int) (l : List (List Int)) (r : List Int) : last ((a :: l) ++ [r]) = r := by
  unfold last
  rw [List.getLastD_eq_getLast?, List.getLast?_append]
  rfl
end Sd
namespace Sd
theorem least_some : ∀ {l : List (Int × Nat × Int)}, l.Pairwise (fun a b => a.2.1 < b.2.1) → l ≠ [] → ∃ y, least l = some y ∧ y ∈ l ∧ ∀ x ∈ l, y.1 < x.1 ∨ (y.1 = x.1 ∧ (y = x ∨ y.2.1 < x.2.1))
  | [], _, h => absurd rfl h
  | x :: xs, hp, _ => by
    unfold least
    cases xs with
    | nil =>
      refine ⟨x, rfl, List.mem_cons_self, fun z hz => ?_⟩
      rw [List.mem_singleton.mp hz]
      exact .inr ⟨rfl, .inl rfl⟩
    | cons a as =>
      obtain ⟨y, h1, h2, h3⟩ := least_some (List.pairwise_cons.mp hp).2 (by simp)
      have hx := (List.pairwise_cons.mp hp).1
      rw [h1]
      dsimp only
      by_cases c : y.1 < x.1
      · rw [if_pos c]
        refine ⟨y, rfl, List.mem_cons_of_mem _ h2, fun z hz => ?_⟩
        rcases List.mem_cons.mp hz with rfl | hz
        · exact .inl c
        · exact h3 z hz
      · rw [if_neg c]
        refine ⟨x, rfl, List.mem_cons_self, fun z hz => ?_⟩
        rcases List.mem_cons.mp hz with rfl | hz
        · exact .inr ⟨rfl, .inl rfl⟩
        · have := hx z hz
          rcases h3 z hz with h | ⟨h, _⟩
          · exact .inl (by omega)
          · by_cases e : x.1 = z.1
            · exact .inr ⟨e, .inr this⟩
            · exact .inl (by omega)
theorem left_sorted (took : List Nat) (rows : List (List Int)) : (left took rows).Pairwise (fun a b => a.2.1 < b.2.1) := by
  unfold left
  refine List.Pairwise.filterMap _ (R := fun a b => a < b) ?_ List.pairwise_lt_range
  intro a b hab x hx y hy
  split at hx
  · split at hy
    · cases hx
      cases hy
      exact hab
    · cases hy
  · cases hx
theorem least_nil_iff (l : List (Int × Nat × Int)) : least l = none ↔ l = [] := by
  cases l with
  | nil => exact ⟨fun _ => rfl, fun _ => rfl⟩
  | cons x xs =>
    refine ⟨fun h => ?_, fun h => by cases h⟩
    unfold least at h
    cases e : least xs with
    | none => rw [e] at h; cases h
    | some y =>
      rw [e] at h
      dsimp only at h
      split at h <;> cases h
end Sd
namespace Sd
theorem RdOk.pic {many : Nat} {r : List Int} (h : RdOk many 1 r) {n : Int} (hn : n ∈ r) : PicOk many n := h.2 n hn
theorem sum_le {l : List Int} (h : ∀ x ∈ l, 0 ≤ x ∧ x ≤ 1000) : 0 ≤ l.sum ∧ l.sum ≤ 1000 * l.length := by
  induction l with
  | nil => exact ⟨Int.le_refl _, Int.le_refl _⟩
  | cons x l ih =>
    have h1 := h x List.mem_cons_self
    have h2 := ih fun y hy => h y (List.mem_cons_of_mem _ hy)
    rw [List.sum_cons, List.length_cons]
    omega
theorem borrowed_some {first now : List Int} {v : List Int} : ∀ {hs : List Nat}, borrowed first now hs = some v → ∃ h ∈ hs, (row0 (now.getD h 0)).getD 0 0 - (row0 (first.getD h 0)).getD 0 0 ≥ 2 ∧ v = (row0 (now.getD h 0)).drop 2
  | [], h => by cases h
  | a :: hs, h => by
    unfold borrowed at h
    split at h
    · rename_i c
      cases h
      exact ⟨a, List.mem_cons_self, c, rfl⟩
    · obtain ⟨b, h1, h2⟩ := borrowed_some h
      exact ⟨b, List.mem_cons_of_mem _ h1, h2⟩
theorem view_ok {many : Nat} {rds : List (List Int)} {v : List Int} (hr : ∀ r ∈ rds, RdOk many 1 r) (h0 : 0 < many) (h4 : many ≤ 4) (h : view many rds = some v) : v.length = many + 1 ∧ In6 v := by
  unfold view at h
  by_cases c : rds.length < 2
  · rw [if_pos c] at h; cases h
  rw [if_neg c] at h
  have hne : rds ≠ [] := fun e => by rw [e] at c; exact c (by decide)
  have hl : last rds ∈ rds := by
    unfold last
    rw [List.getLastD_eq_getLast?, List.getLast?_eq_some_getLast hne]
    exact List.getLast_mem _
  have hlo := hr _ hl
  by_cases e : last rds = last rds.dropLast
  · rw [if_pos e] at h
    cases h
    refine ⟨by rw [List.length_cons, List.length_map, hlo.1], ?_⟩
    refine In6.cons ?_ ?_ fun x hx => ?_
    · exact (sum_le fun x hx => by
        obtain ⟨n, hn, rfl⟩ := List.mem_map.mp hx
        obtain ⟨p, c, v, e1, e2, e3, _⟩ := (hlo.pic hn).row0
        rw [e1]
        exact ⟨(e2 p List.mem_cons_self).1, e3⟩).1
    · have := (sum_le (l := (last rds).map fun n => (row0 n).getD 0 0) fun x hx => by
        obtain ⟨n, hn, rfl⟩ := List.mem_map.mp hx
        obtain ⟨p, c, v, e1, e2, e3, _⟩ := (hlo.pic hn).row0
        rw [e1]
        exact ⟨(e2 p List.mem_cons_self).1, e3⟩).2
      rw [List.length_map, hlo.1] at this
      omega
    · obtain ⟨n, hn, rfl⟩ := List.mem_map.mp hx
      obtain ⟨p, c, v, e1, e2, e3, _⟩ := (hlo.pic hn).row0
      rw [e1]
      have := e2 c (List.mem_cons_of_mem _ List.mem_cons_self)
      exact ⟨this.1, Int.lt_trans this.2 (by decide)⟩
  · rw [if_neg e] at h
    obtain ⟨b, hb, h1, rfl⟩ := borrowed_some h
    have hbm : b < many := List.mem_range.mp hb
    have hfi : (rds.headD []) ∈ rds := by
      cases rds with
      | nil => exact absurd rfl hne
      | cons r rr => exact List.mem_cons_self
    have hfo := hr _ hfi
    have g1 : (last rds).getD b 0 ∈ last rds := by
      rw [List.getD_eq_getElem?_getD, List.getElem?_eq_getElem (by rw [hlo.1]; exact hbm)]
      exact List.getElem_mem _
    have g2 : (rds.headD []).getD b 0 ∈ rds.headD [] := by
      rw [List.getD_eq_getElem?_getD, List.getElem?_eq_getElem (by rw [hfo.1]; exact hbm)]
      exact List.getElem_mem _
    obtain ⟨p, c, v, e1, e2, e3, e4⟩ := (hlo.pic g1).row0
    obtain ⟨p', c', v', e1', e2', e3', _⟩ := (hfo.pic g2).row0
    rw [e1, e1'] at h1
    have hp' := (e2' p' List.mem_cons_self).1
    have hp2 : 2 ≤ p := by
      have h1' : p - p' ≥ 2 := h1
      omega
    rw [e1]
    rcases e4 with ⟨e4, e5⟩ | ⟨_, e5⟩
    · exfalso
      have : row0 ((last rds).getD b 0) = [0, 0] := by unfold row0; rw [if_pos e4]
      rw [this] at e1
      injection e1 with e1
      omega
    · exact ⟨e5, fun x hx => by
        have := e2 x (List.mem_cons_of_mem _ (List.mem_cons_of_mem _ hx))
        exact ⟨this.1, Int.lt_trans this.2 (by decide)⟩⟩
end Sd
namespace Sd
theorem Deed.thing_le : ∀ d : Deed, d.thing ≤ 4
  | .one | .count => (by decide : 0 ≤ 4)
  | .set _ | .look => (by decide : 1 ≤ 4)
  | .add _ | .sum => (by decide : 2 ≤ 4)
  | .rais _ | .top => (by decide : 3 ≤ 4)
  | .give _ | .take => (by decide : 4 ≤ 4)
/-- a deed's first look, before anything was taken -/
theorem out_nil {many i : Nat} {d : Deed} {h : HandM} {o : Out} (e : outOf many i d { h with readings := [] } = some o) : o.num.isSome = true ∧ d.puts = true := by
  cases d with
  | one => cases e; exact ⟨rfl, rfl⟩
  | count => cases e
  | give n => cases e
  | take => cases e
  | set n => cases e
  | look => cases e
  | add n => cases e
  | sum => cases e
  | rais n => cases e
  | top => cases e
theorem act_put {many i now : Nat} {d : Deed} {boxes : List Int} {h : HandM} {o : Out} (e : h.out = some o) :
    h.act many i d boxes now = ⟨(h.done i d now o).1, boxes.set (d.thing * many + i) (o.num.getD 0), ⟨i, true, d.thing * many + i, o.num.getD 0⟩, some (h.done i d now o).2⟩ := by
  unfold HandM.act
  rw [e]
theorem act_take0 {many i now : Nat} {d : Deed} {boxes : List Int} {h : HandM} (e : h.out = none) {h2 : HandM} (k : h.keep many i d (boxes.getD (h.place many d) 0) = h2) (c : h2.out = none ∨ ∃ o, h2.out = some o ∧ o.num.isSome = true) :
    h.act many i d boxes now = ⟨h2, boxes, ⟨i, false, h.place many d, boxes.getD (h.place many d) 0⟩, none⟩ := by
  unfold HandM.act
  rw [e]
  dsimp only
  rw [k]
  rcases c with c | ⟨o, c, c2⟩
  · rw [c]
  · rw [c]
    dsimp only
    rw [if_pos c2]
theorem act_take1 {many i now : Nat} {d : Deed} {boxes : List Int} {h : HandM} {o : Out} (e : h.out = none) {h2 : HandM} (k : h.keep many i d (boxes.getD (h.place many d) 0) = h2) (c : h2.out = some o) (c2 : o.num = none) :
    h.act many i d boxes now = ⟨(h2.done i d now o).1, boxes, ⟨i, false, h.place many d, boxes.getD (h.place many d) 0⟩, some (h2.done i d now o).2⟩ := by
  unfold HandM.act
  rw [e]
  dsimp only
  rw [k, c]
  dsimp only
  rw [if_neg (by rw [c2]; exact Bool.false_ne_true)]
theorem start_eq (many i now : Nat) (d : Deed) (h : HandM) : (h.start many i d now).took = h.took ∧ (h.start many i d now).reading = h.reading ∧ (h.start many i d now).ended = h.ended ∧ (h.start many i d now).ones = h.ones ∧ (h.start many i d now).steps = h.steps := by
  unfold HandM.start
  split <;> exact ⟨rfl, rfl, rfl, rfl, rfl⟩
theorem take_mark {many i : Nat} {h : HandM} {o : Out} (hr : ∀ r ∈ h.readings, r.length = many) (e : outOf many i .take h = some o) : o.num = none ∧ (o.mark = .non ∨ ∃ k l, o.mark = .gift k l ∧ k < many) := by
  have e' : lineOut i .take h.took h.readings = some o := e
  unfold lineOut at e'
  by_cases hn : h.readings = []
  · rw [if_pos hn] at e'; cases e'
  · rw [if_neg hn] at e'
    dsimp only at e'
    split at e'
    · cases e'
      exact ⟨rfl, .inl rfl⟩
    · rename_i l hl
      split at e'
      · cases e'
      · cases e'
        refine ⟨rfl, .inr ⟨_, _, rfl, ?_⟩⟩
        have hne : left h.took ((last h.readings).map dec) ≠ [] := fun z => by rw [z] at hl; cases hl
        obtain ⟨y, h1, h2, _⟩ := least_some (left_sorted _ _) hne
        rw [hl] at h1
        cases h1
        unfold left at h2
        obtain ⟨h', hh', e2⟩ := List.mem_filterMap.mp h2
        have hlast : last h.readings ∈ h.readings := by
          unfold last
          rw [List.getLastD_eq_getLast?, List.getLast?_eq_some_getLast hn]
          exact List.getLast_mem _
        rw [List.mem_range, List.length_map, hr _ hlast] at hh'
        split at e2
        · cases e2
          exact hh'
        · cases e2
theorem keep_out {many i : Nat} {d : Deed} {n : Int} {h : HandM} {o : Out} (h0 : h.out = none) (e : (h.keep many i d n).out = some o) : (h.reading ++ [n]).length = many ∧ outOf many i d { h with readings := h.readings ++ [h.reading ++ [n]] } = some o := by
  unfold HandM.keep at e
  dsimp only at e
  split at e
  · rename_i c
    exact ⟨c, e⟩
  · rw [h0] at e
    cases e
theorem keep_eq (many i : Nat) (d : Deed) (n : Int) (h : HandM) : (h.keep many i d n).took = h.took ∧ (h.keep many i d n).beg = h.beg := by
  unfold HandM.keep
  dsimp only
  split <;> exact ⟨rfl, rfl⟩
end Sd

/-! judging, plain words -/
namespace Sd
structure RecOk (m : Nat) (r : Rec) : Prop where
  hand : r.hand < m
  ok : r.deed.ok
/-- one deed behind another -/
def runK (recs : List Rec) : List Nat → L5 → Int → Bool
  | [], _, _ => true
  | p :: ps, s, lt => match recs[p]? with
    | none => false
    | some r => if (r.fin : Int) < lt then false else if s.ans r.deed = r.ans then runK recs ps (s.behind r.hand r.deed) (if (r.beg : Int) > lt then r.beg else lt) else false
def rangeI (n : Nat) : List Int := (List.range n).map fun i : Nat => (i : Int)
def keepsM (recs : List Rec) (order : List Int) (m : Nat) : Bool :=
  if order.Perm (rangeI recs.length) then runK recs (order.map Int.toNat) (L5.first m) (-1) else false
theorem rangeI_sorted (n : Nat) : (rangeI n).Pairwise (· ≤ ·) := by
  unfold rangeI
  rw [List.pairwise_map]
  exact List.Pairwise.imp (fun h => by omega) List.pairwise_lt_range
theorem sorted_eq {ns ns' : List Int} {n : Nat} (hp : ns'.Perm ns) (hs : ns'.Pairwise (· ≤ ·)) : decide (ns' = rangeI n) = decide (ns.Perm (rangeI n)) := by
  refine decide_eq_decide.mpr ⟨fun e => ?_, fun h => ?_⟩
  · rw [← e]
    exact hp.symm
  · exact List.Perm.eq_of_pairwise (le := (· ≤ ·)) (fun a b _ _ h1 h2 => Int.le_antisymm h1 h2) hs (rangeI_sorted n) (hp.trans h)
theorem mem_rangeI {n : Nat} {x : Int} (h : x ∈ rangeI n) : ∃ i : Nat, x = i ∧ i < n := by
  obtain ⟨i, hi, rfl⟩ := List.mem_map.mp h
  exact ⟨i, rfl, List.mem_range.mp hi⟩
end Sd
namespace Sd
/-- the program's own walk -/
def runS (recs : List Rec) : List Nat → St5 → Int → Bool
  | [], _, _ => true
  | p :: ps, s, lt => match recs[p]? with
    | none => false
    | some r => if (r.fin : Int) < lt then false else if s.ans r.deed = r.ans then runS recs ps (s.behind r.hand r.deed) (if (r.beg : Int) > lt then r.beg else lt) else false
theorem runS_eq {recs : List Rec} {m : Nat} (hok : ∀ r ∈ recs, RecOk m r) : ∀ (ps : List Nat) (s : St5) (l : L5) (lt : Int), Sim s l → l.Ok m → l.line.length + ps.length < 10000 → runS recs ps s lt = runK recs ps l lt
  | [], _, _, _, _, _, _ => rfl
  | p :: ps, s, l, lt, hs, ho, hl => by
    show (match recs[p]? with | none => false | some r => _) = (match recs[p]? with | none => false | some r => _)
    cases e : recs[p]? with
    | none => rfl
    | some r =>
      dsimp only
      have h := hok r (List.mem_of_getElem? e)
      rw [hs.ans r.deed]
      by_cases c : (r.fin : Int) < lt
      · rw [if_pos c, if_pos c]
      · rw [if_neg c, if_neg c]
        by_cases c2 : l.ans r.deed = r.ans
        · rw [if_pos c2, if_pos c2]
          rw [List.length_cons] at hl
          have := l.len_behind r.hand r.deed
          exact runS_eq hok ps _ _ _ (hs.behind ho h.hand h.ok) (ho.behind h.ok (by omega)) (by omega)
        · rw [if_neg c2, if_neg c2]
theorem keepsS {recs : List Rec} {order : List Int} {m : Nat} (hok : ∀ r ∈ recs, RecOk m r) (hl : recs.length ≤ 9000) (hp : order.Perm (rangeI recs.length)) : keepsM recs order m = runS recs (order.map Int.toNat) (St5.first m) (-1) := by
  have hlo : order.length = recs.length := by
    have := hp.length_eq
    unfold rangeI at this
    rw [List.length_map, List.length_range] at this
    exact this
  unfold keepsM
  rw [if_pos hp]
  exact (runS_eq hok _ _ _ _ (Sim.first m) (L5.Ok.first m) (by rw [List.length_map]; show 0 + _ < _; omega)).symm
end Sd
namespace Sd
theorem St5.cells_behind (s : St5) (h : Nat) (d : Deed) : (s.behind h d).cells.length = s.cells.length := by
  cases d with
  | set n => exact List.length_set
  | _ => rfl
theorem St5.len_behind (s : St5) (h : Nat) (d : Deed) : (s.behind h d).line.length ≤ s.line.length + 1 := by
  cases d with
  | give n => show (s.line ++ [n]).length ≤ _; rw [List.length_append]; exact Nat.le_refl _
  | take => show (s.line.drop 1).length ≤ _; rw [List.length_drop]; omega
  | _ => exact Nat.le_succ _
end Sd

/-! deeds, and what tells of them -/
namespace Sd
open PySem L2
namespace Deed
def word : Deed → Str
  | one => "one" | count => "count" | set _ => "set" | look => "look" | add _ => "add" | sum => "sum" | rais _ => "raise" | top => "top" | give _ => "give" | take => "take"
def vals : Deed → List V
  | set n => [.str "set", .int n] | add n => [.str "add", .int n] | rais n => [.str "raise", .int n] | give n => [.str "give", .int n]
  | one => [.str "one"] | count => [.str "count"] | look => [.str "look"] | sum => [.str "sum"] | top => [.str "top"] | take => [.str "take"]
theorem at0 : ∀ d : Deed, atI d.vals (0 : Int) = some (.str d.word)
  | set _ | add _ | rais _ | give _ | one | count | look | sum | top | take => atI_nat (j := 0) rfl
end Deed
def words10 : List Str := ["one", "count", "set", "look", "add", "sum", "raise", "top", "give", "take"]
theorem word_of {w : Str} (h : w ∈ words10) : ∃ d : Deed, d.word = w := by
  simp only [words10, List.mem_cons, List.not_mem_nil, or_false] at h
  rcases h with rfl | rfl | rfl | rfl | rfl | rfl | rfl | rfl | rfl | rfl
  · exact ⟨.one, rfl⟩
  · exact ⟨.count, rfl⟩
  · exact ⟨.set 0, rfl⟩
  · exact ⟨.look, rfl⟩
  · exact ⟨.add 0, rfl⟩
  · exact ⟨.sum, rfl⟩
  · exact ⟨.rais 0, rfl⟩
  · exact ⟨.top, rfl⟩
  · exact ⟨.give 0, rfl⟩
  · exact ⟨.take, rfl⟩
theorem strs_got {ws : List Str} {j : Nat} {y : V} (h : (ws.map V.str)[j]? = some y) : ∃ v, ws[j]? = some v ∧ y = .str v := by
  rw [List.getElem?_map] at h
  cases e : ws[j]? with
  | none =>
    rw [e] at h
    cases h
  | some v =>
    rw [e] at h
    exact ⟨v, rfl, (Option.some.inj h).symm⟩
def spLDeed (K : PySem.W.Frag) : Sp := fun vs H Q _ => ∃ (d a : Addr) (ns : List Int) (w : Str), vs = [.ref d, .str w] ∧ w ∈ words10 ∧ Dice H d a ∧ SqL K H a (ns.map V.int) ∧
  ∀ (p : Addr) (H' : Hp) (dd : Deed), dd.word = w → dd.ok → H p = none → H' p = some (.tup dd.vals) → Dice H' d a → But d H H' → Q (.ref p) H'
theorem two_at {n m : Int} {r : Int} (h0 : 0 ≤ r) (h1 : r < 2) : ∃ z, atI [V.int n, V.int m] r = some (V.int z) ∧ (z = n ∨ z = m) := by
  have h : r = 0 ∨ r = 1 := by omega
  rcases h with rfl | rfl
  · exact ⟨n, atI_nat (j := 0) rfl, .inl rfl⟩
  · exact ⟨m, atI_nat (j := 1) rfl, .inr rfl⟩
end Sd

/-! what the five things hold, and what a deed done at once answers -/
namespace Sd
open PySem L2
def Ans.At (H : Hp) (v : V) : Ans → Prop
  | .non => v = .non
  | .int n => v = .int n
  | .view cs => ∃ p, v = .ref p ∧ H p = some (.tup (cs.map V.int))
theorem Ans.At.same {H H' : Hp} {v : V} {a : Ans} (h : a.At H v) (s : Same H H') : a.At H' v := by
  cases a with
  | non => exact h
  | int n => exact h
  | view cs =>
    obtain ⟨p, e, hp⟩ := h
    exact ⟨p, e, s _ _ hp⟩
def St5.At (H : Hp) (v : V) (s : St5) : Prop := ∃ t pc pl, v = .ref t ∧ H t = some (.tup [.int s.ones, .ref pc, .int s.added, .int s.top, .ref pl]) ∧ H pc = some (.tup (s.cells.map V.int)) ∧ H pl = some (.tup (s.line.map V.int))
theorem St5.At.same {H H' : Hp} {v : V} {s : St5} (h : s.At H v) (e : Same H H') : s.At H' v := by
  obtain ⟨t, pc, pl, rfl, h1, h2, h3⟩ := h
  exact ⟨t, pc, pl, rfl, e _ _ h1, e _ _ h2, e _ _ h3⟩
def DeedAt (H : Hp) (p : Addr) (d : Deed) : Prop := H p = some (.tup d.vals)
def spFirst : Sp := fun vs H Q _ => ∃ m : Nat, vs = [.int m] ∧ 1 ≤ m ∧ m ≤ 100 ∧ ∀ v H', Same H H' → (St5.first m).At H' v → Q v H'
def spAnsIn : Sp := fun vs H Q _ => ∃ (v : V) (p : Addr) (s : St5) (d : Deed), vs = [v, .ref p] ∧ s.At H v ∧ DeedAt H p d ∧ s.line.length ≤ 10000 ∧ ∀ u, (s.ans d).At H u → Q u H
def spBehind : Sp := fun vs H Q _ => ∃ (v : V) (p : Addr) (s : St5) (h m : Nat) (d : Deed), vs = [v, .int h, .ref p] ∧ s.At H v ∧ DeedAt H p d ∧ s.Ok m ∧ m ≤ 100 ∧ h < m ∧ ∀ u H', Same H H' → (s.behind h d).At H' u → Q u H'
end Sd

/-! the law's own five things -/
namespace Sd
open PySem L2
/-- but for the objects of F, what stood stands -/
def Off (F : List Addr) (H H' : Hp) : Prop := ∀ b o, b ∉ F → H b = some o → H' b = some o
theorem Off.refl (F : List Addr) (H : Hp) : Off F H H := fun _ _ _ h => h
theorem Off.trans {F : List Addr} {H H1 H2 : Hp} (a : Off F H H1) (b : Off F H1 H2) : Off F H H2 := fun c o n h => b c o n (a c o n h)
theorem Off.of_same {F : List Addr} {H H' : Hp} (s : Same H H') : Off F H H' := fun b o _ h => s b o h
theorem Off.upd {F : List Addr} {H : Hp} {p : Addr} {o : HO} (h : p ∈ F) : Off F H (upd H p o) := fun b u n e => by
  rw [upd_ne (fun z => n (by rw [z]; exact h))]
  exact e
theorem Off.at_ {F : List Addr} {H H' : Hp} (s : Off F H H') {b : Addr} {o : HO} (n : b ∉ F) (h : H b = some o) : H' b = some o := s b o n h
theorem Off.same {F : List Addr} {H H' : Hp} (s : Off F H H') (h : ∀ x ∈ F, H x = none) : Same H H' := fun b o e => s b o (fun m => by rw [h b m] at e; cases e) e
theorem free_ne {F : List Addr} {H : Hp} {x : Addr} {o : HO} (h : ∀ y ∈ F, H y = none) (hx : H x = some o) : x ∉ F := fun m => by
  rw [h x m] at hx
  cases hx
/-- the dict and its four lists: F = [d, set, add, raise, line] -/
structure L5.At (H : Hp) (d a1 a2 a3 a4 : Addr) (s : L5) : Prop where
  d : H d = some (.dK [(Sum.inr "ones", .int s.ones), (Sum.inr "set", .ref a1), (Sum.inr "add", .ref a2), (Sum.inr "raise", .ref a3), (Sum.inr "line", .ref a4)])
  c1 : H a1 = some (.lst (s.cells.map V.int))
  c2 : H a2 = some (.lst (s.adds.map V.int))
  c3 : H a3 = some (.lst (s.tops.map V.int))
  c4 : H a4 = some (.lst (s.line.map V.int))
  n : a1 ≠ a2 ∧ a1 ≠ a3 ∧ a1 ≠ a4 ∧ a2 ≠ a3 ∧ a2 ≠ a4 ∧ a3 ≠ a4
theorem L5.At.nd {H : Hp} {d a1 a2 a3 a4 : Addr} {s : L5} (h : s.At H d a1 a2 a3 a4) : d ≠ a1 ∧ d ≠ a2 ∧ d ≠ a3 ∧ d ≠ a4 :=
  ⟨ne_of h.d h.c1 (by intro z; cases z), ne_of h.d h.c2 (by intro z; cases z), ne_of h.d h.c3 (by intro z; cases z), ne_of h.d h.c4 (by intro z; cases z)⟩
theorem L5.At.off {H H' : Hp} {d a1 a2 a3 a4 : Addr} {s : L5} {F : List Addr} (h : s.At H d a1 a2 a3 a4) (o : Off F H H') (n : ∀ x ∈ [d, a1, a2, a3, a4], x ∉ F) : s.At H' d a1 a2 a3 a4 :=
  ⟨o _ _ (n _ (by simp)) h.d, o _ _ (n _ (by simp)) h.c1, o _ _ (n _ (by simp)) h.c2, o _ _ (n _ (by simp)) h.c3, o _ _ (n _ (by simp)) h.c4, h.n⟩
theorem L5.At.set1 {H : Hp} {d a1 a2 a3 a4 : Addr} {s : L5} (h : s.At H d a1 a2 a3 a4) (cs : List Int) : ({ s with cells := cs } : L5).At (upd H a1 (.lst (cs.map V.int))) d a1 a2 a3 a4 := by
  obtain ⟨n12, n13, n14, n23, n24, n34⟩ := h.n
  obtain ⟨k1, k2, k3, k4⟩ := h.nd
  exact ⟨by rw [upd_ne k1]; exact h.d, upd_same, by rw [upd_ne n12.symm]; exact h.c2, by rw [upd_ne n13.symm]; exact h.c3, by rw [upd_ne n14.symm]; exact h.c4, h.n⟩
theorem L5.At.set2 {H : Hp} {d a1 a2 a3 a4 : Addr} {s : L5} (h : s.At H d a1 a2 a3 a4) (cs : List Int) : ({ s with adds := cs } : L5).At (upd H a2 (.lst (cs.map V.int))) d a1 a2 a3 a4 := by
  obtain ⟨n12, n13, n14, n23, n24, n34⟩ := h.n
  obtain ⟨k1, k2, k3, k4⟩ := h.nd
  exact ⟨by rw [upd_ne k2]; exact h.d, by rw [upd_ne n12]; exact h.c1, upd_same, by rw [upd_ne n23.symm]; exact h.c3, by rw [upd_ne n24.symm]; exact h.c4, h.n⟩
theorem L5.At.set3 {H : Hp} {d a1 a2 a3 a4 : Addr} {s : L5} (h : s.At H d a1 a2 a3 a4) (cs : List Int) : ({ s with tops := cs } : L5).At (upd H a3 (.lst (cs.map V.int))) d a1 a2 a3 a4 := by
  obtain ⟨n12, n13, n14, n23, n24, n34⟩ := h.n
  obtain ⟨k1, k2, k3, k4⟩ := h.nd
  exact ⟨by rw [upd_ne k3]; exact h.d, by rw [upd_ne n13]; exact h.c1, by rw [upd_ne n23]; exact h.c2, upd_same, by rw [upd_ne n34.symm]; exact h.c4, h.n⟩
theorem L5.At.set4 {H : Hp} {d a1 a2 a3 a4 : Addr} {s : L5} (h : s.At H d a1 a2 a3 a4) (cs : List Int) : ({ s with line := cs } : L5).At (upd H a4 (.lst (cs.map V.int))) d a1 a2 a3 a4 := by
  obtain ⟨n12, n13, n14, n23, n24, n34⟩ := h.n
  obtain ⟨k1, k2, k3, k4⟩ := h.nd
  exact ⟨by rw [upd_ne k4]; exact h.d, by rw [upd_ne n14]; exact h.c1, by rw [upd_ne n24]; exact h.c2, by rw [upd_ne n34]; exact h.c3, upd_same, h.n⟩
theorem L5.At.setD {H : Hp} {d a1 a2 a3 a4 : Addr} {s : L5} (h : s.At H d a1 a2 a3 a4) (n : Int) :
    ({ s with ones := n } : L5).At (upd H d (.dK [(Sum.inr "ones", .int n), (Sum.inr "set", .ref a1), (Sum.inr "add", .ref a2), (Sum.inr "raise", .ref a3), (Sum.inr "line", .ref a4)])) d a1 a2 a3 a4 := by
  obtain ⟨k1, k2, k3, k4⟩ := h.nd
  exact ⟨upd_same, by rw [upd_ne k1.symm]; exact h.c1, by rw [upd_ne k2.symm]; exact h.c2, by rw [upd_ne k3.symm]; exact h.c3, by rw [upd_ne k4.symm]; exact h.c4, h.n⟩
def spLPlain : Sp := fun vs H Q _ => ∃ m : Nat, vs = [.int m] ∧ m ≤ 100 ∧ ∀ d a1 a2 a3 a4 H', (∀ x ∈ [d, a1, a2, a3, a4], H x = none) → Same H H' → (L5.first m).At H' d a1 a2 a3 a4 → Q (.ref d) H'
def spAtOnce : Sp := fun vs H Q _ => ∃ (d a1 a2 a3 a4 p : Addr) (s : L5) (h m : Nat) (dd : Deed), vs = [.ref d, .int h, .ref p] ∧ s.At H d a1 a2 a3 a4 ∧ DeedAt H p dd ∧ s.Ok m ∧ 1 ≤ m ∧ h < m ∧ dd.ok ∧ s.line.length < 10000 ∧
  ∀ u H', (s.ans dd).At H' u → (s.behind h dd).At H' d a1 a2 a3 a4 → Off [d, a1, a2, a3, a4] H H' → Q u H'
end Sd
namespace Sd
open PySem L2
def spSameF : Sp := fun vs H Q _ => ∃ (u : V) (a : Ans), vs = [u, u] ∧ a.At H u ∧ (∀ cs, a ≠ .view cs) ∧ Q (.bl true) H
def spSame : Sp := fun vs H Q _ => ∃ (u v : V) (a : Ans), vs = [u, v] ∧ a.At H u ∧ a.At H v ∧ ∀ H', Same H H' → Q (.bl true) H'
def spWords : Sp := fun vs H Q _ => vs = [] ∧ ∀ p H', H p = none → Same H H' → H' p = some (.lst (words10.map V.str)) → Q (.ref p) H'
/-! the program's Plain -/
abbrev fsS (v : V) : List (Str × V) := [(("_state" : Str), v)]
theorem fsS_no {f : Str} (v : V) (h : ¬ f = "_state") : (fsS v).lookup f = none := by
  have hb : (f == ("_state" : Str)) = false := by
    cases e : f == ("_state" : Str) with
    | false => rfl
    | true => exact absurd (beq_iff_eq.mp e) h
  show List.lookup f [(("_state" : Str), v)] = none
  rw [List.lookup_cons, hb]
  rfl
theorem fsS_at (v : V) : (fsS v).lookup ("_state" : Str) = some v := by
  have hb : (("_state" : Str) == ("_state" : Str)) = true := beq_self_eq_true _
  show List.lookup ("_state" : Str) [(("_state" : Str), v)] = _
  rw [List.lookup_cons, hb]
theorem fsS_put (v u : V) : putF "_state" u (fsS v) = fsS u := rfl
def PlainAt (C : Addr) (H : Hp) (b : Addr) (s : St5) : Prop := ∃ dx v, H b = some (.ins C dx (fsS v)) ∧ s.At H v
theorem St5.At.ins {H : Hp} {v : V} {s : St5} {p C dx : Addr} {fs : List (Str × V)} {o : HO} (h : s.At H v) (hp : H p = some (.ins C dx fs)) : s.At (upd H p o) v := by
  obtain ⟨t, pc, pl, rfl, h1, h2, h3⟩ := h
  exact ⟨t, pc, pl, rfl, by rw [upd_ne (ne_of h1 hp (by intro z; cases z))]; exact h1, by rw [upd_ne (ne_of h2 hp (by intro z; cases z))]; exact h2, by rw [upd_ne (ne_of h3 hp (by intro z; cases z))]; exact h3⟩
theorem Ans.At.ins {H : Hp} {v : V} {a : Ans} {p C dx : Addr} {fs : List (Str × V)} {o : HO} (h : a.At H v) (hp : H p = some (.ins C dx fs)) : a.At (upd H p o) v := by
  cases a with
  | non => exact h
  | int n => exact h
  | view cs =>
    obtain ⟨t, e, h1⟩ := h
    exact ⟨t, e, by rw [upd_ne (ne_of h1 hp (by intro z; cases z))]; exact h1⟩
def spPInit (C : Addr) : Sp := fun vs H Q _ => ∃ (p dx : Addr) (m : Nat), vs = [.ref p, .int m] ∧ 1 ≤ m ∧ m ≤ 100 ∧ H p = some (.ins C dx []) ∧
  ∀ (H' : Hp), But p H H' → PlainAt C H' p (St5.first m) → Q .non H'
def spDone (C : Addr) : Sp := fun vs H Q _ => ∃ (b p : Addr) (s : St5) (h m : Nat) (d : Deed), vs = [.ref b, .int h, .ref p] ∧ PlainAt C H b s ∧ DeedAt H p d ∧ s.Ok m ∧ m ≤ 100 ∧ h < m ∧
  ∀ u H', (s.ans d).At H' u → PlainAt C H' b (s.behind h d) → But b H H' → Q u H'
end Sd

/-! tuples: slices, sums, whether an object is new or the old one -/
namespace Sd
open PySem L2
theorem cut_take {xs : List V} {h : Nat} (hh : h ≤ xs.length) : cutV xs none (some (h : Int)) = xs.take h := by
  unfold cutV
  rw [HT.sIx_nat, HT.sIx_none, List.drop_zero, Nat.sub_zero, Nat.min_eq_left hh]
theorem cut_drop {xs : List V} {h : Nat} : cutV xs (some (h : Int)) none = xs.drop h := by
  unfold cutV
  rw [HT.sIx_nat, HT.sIx_none]
  by_cases e : h ≤ xs.length
  · rw [Nat.min_eq_left e]
    exact List.take_of_length_le (by rw [List.length_drop]; omega)
  · rw [Nat.min_eq_right (by omega), Nat.sub_self, List.take_zero, List.drop_eq_nil_of_le (by omega)]
theorem cat_any {H : Hp} {a b : Addr} {xs ys : List V} {Q : VK} (ha : H a = some (.tup xs)) (hb : H b = some (.tup ys)) (q : ∀ u H', Same H H' → H' u = some (.tup (xs ++ ys)) → Q (.ref u) H') :
    (xs = [] → Q (.ref b) H) ∧ (xs ≠ [] → ys = [] → Q (.ref a) H) ∧ (xs ≠ [] → ys ≠ [] → ∀ p, H p = none → Q (.ref p) (upd H p (.tup (xs ++ ys)))) := by
  refine ⟨fun e => q b H (Same.refl H) ?_, fun _ e => q a H (Same.refl H) ?_, fun _ _ p hp => q p _ (Same.new hp) upd_same⟩
  · rw [e]
    exact hb
  · rw [e, List.append_nil]
    exact ha
theorem slice_any {H : Hp} {a : Addr} {xs : List V} {lo hi : Option Int} {Q : VK} (ha : H a = some (.tup xs)) (q : ∀ u H', Same H H' → H' u = some (.tup (cutV xs lo hi)) → Q (.ref u) H') :
    (HT.sIx xs.length 0 lo = 0 ∧ HT.sIx xs.length xs.length hi = xs.length → Q (.ref a) H) ∧ (¬ (HT.sIx xs.length 0 lo = 0 ∧ HT.sIx xs.length xs.length hi = xs.length) → ∀ p, H p = none → Q (.ref p) (upd H p (.tup (cutV xs lo hi)))) := by
  refine ⟨fun e => q a H (Same.refl H) ?_, fun _ p hp => q p _ (Same.new hp) upd_same⟩
  unfold cutV
  rw [e.1, e.2, List.drop_zero, Nat.sub_zero, List.take_length]
  exact ha
theorem cat_r {K : PySem.W.Frag} {H : Hp} {a b : Addr} {xs ys : List V} {Q : VK} (ha : H a = some (.tup xs)) (hb : H b = some (.tup ys)) (hn : xs.length + ys.length ≤ 1001) (q : ∀ u H', Same H H' → H' u = some (.tup (xs ++ ys)) → Q (.ref u) H') : rCatA K (.ref a) (.ref b) H Q :=
  ⟨a, b, xs, ys, rfl, rfl, SqT.of ha, SqT.of hb, Nat.le_trans hn (by decide), cat_any ha hb q⟩
theorem cat_rL {K : PySem.W.Frag} {H : Hp} {a b : Addr} {xs ys : List V} {Q : VK} (ha : H a = some (.tup xs)) (hb : H b = some (.tup ys)) (hn : xs.length + ys.length ≤ 10001) (q : ∀ u H', Same H H' → H' u = some (.tup (xs ++ ys)) → Q (.ref u) H') : rCatA K (.ref a) (.ref b) H Q :=
  ⟨a, b, xs, ys, rfl, rfl, SqT.of ha, SqT.of hb, Nat.le_trans hn (by decide), cat_any ha hb q⟩
theorem slice_r {K : PySem.W.Frag} {H : Hp} {a : Addr} {xs : List V} {lo hi : Option Int} {Q : VK} (ha : H a = some (.tup xs)) (q : ∀ u H', Same H H' → H' u = some (.tup (cutV xs lo hi)) → Q (.ref u) H') : rSlA K (.ref a) lo hi H Q :=
  ⟨a, xs, rfl, SqT.of ha, slice_any ha q⟩
end Sd

/-! tuple * int: by 1 it is the tuple itself -/
namespace Sd
open PySem PySem.Spec PyProof.Rows L2
theorem tuple_mul1 (l : Addr) (items : Array Value) (n : Nat) (sl : Array (Option Value)) (dd : Option Addr) (u : Tok) :
    Meets (Builtin.«tuple.__mul__» ⟨[.ref l, .int 1 u], []⟩) (fun _ R s => s.heap.get? l = some { cls := .type "tuple", dict := dd, data := .seq items n, slots := sl } ∧ R (.ok (.ret (.ref l))) s) :=
  .of_wp fun prog w A R s h => by
    obtain ⟨hp, g, d, tk, os⟩ := s
    obtain ⟨hl, h⟩ := h
    have f1 := AutoSeq1.idx_int
    have c1 : (items.isEmpty || (1 : Int) == 1) = true := Bool.or_true _
    wp_walk using wpAny_loadPart' hl
    exact ⟨_, rfl, h⟩
def rRepT1 (K : PySem.W.Frag) : R2 := fun x y H Q => ∃ l k xs, x = .ref l ∧ y = .int k ∧ SqT K H l xs ∧ xs ≠ [] ∧ 1 ≤ k ∧ k ≤ 1000 ∧ xs.length ≤ 1000 ∧ (k = 1 → Q (.ref l) H) ∧ (k ≠ 1 → ∀ p, H p = none → Q (.ref p) (upd H p (.tup (List.replicate k.toNat xs).flatten)))
theorem op_repT1 {X : Cx} : OpR X (binaryOp .Mult) (rRepT1 X.K) := by
  intro pins s σ H x y v u Q I rx ry h
  obtain ⟨l, k, xs, rfl, rfl, hT, hne, h1, h2, hz, q1, q2⟩ := h
  by_cases e : k = 1
  · subst e
    cases rx
    obtain ⟨t, rfl⟩ := ry
    obtain ⟨its, r, ⟨⟨cls, dd, data, sl⟩, ho, hc, n, hd⟩, hs⟩ := I.tuple hT
    simp only at hc hd
    subst hc hd
    refine wpAny_binaryOp_repeat_ref (T := "tuple") (U := "int") (by decide) ⟨_, ho, rfl⟩ (fun s' => typeIs_int s' 1 t) noFill_tuple_mul F.fills_int_mul F.slot_int_rmul repeat_tuple F.slot_int_index.lookup
      (call_meets F.slot_int_rmul (typeIs_int s 1 t) F.entry_int_rmul (F.args_int_rmul_2 _ _) (int_rmul_tuple 1 t l its.toArray n dd sl)
        ⟨ho, rfl, ⟨_, ho, rfl⟩, call_meets F.slot_tuple_mul ⟨_, ho, rfl⟩ F.entry_tuple_mul (F.args_tuple_mul_2 _ _) (tuple_mul1 l its.toArray n sl dd t) ⟨ho, ?_⟩⟩)
    exact ⟨.ref l, H, I, rfl, q1 rfl⟩
  · exact op_repT pins s σ H _ _ v u Q I rx ry ⟨l, k, xs, rfl, rfl, hT, hne, by omega, h2, hz, q2 e⟩
end Sd

/-! what is a deed, what is none -/
namespace Sd
open PySem L2
def kvThing : List (Str × Int) := [("one", 0), ("count", 0), ("set", 1), ("look", 1), ("add", 2), ("sum", 2), ("raise", 3), ("top", 3), ("give", 4), ("take", 4)]
def noThing : List Str := ["ones", "", "Set", "two"]
def with4 : List Str := ["set", "add", "raise", "give"]
def tell4 : List Str := ["count", "look", "sum", "top"]
def less6 : List Str := ["one", "count", "look", "sum", "top", "take"]
theorem Deed.kv : ∀ d : Deed, (d.word, (d.thing : Int)) ∈ kvThing
  | .one => (by decide +kernel : (("one" : Str), (0 : Int)) ∈ kvThing)
  | .count => (by decide +kernel : (("count" : Str), (0 : Int)) ∈ kvThing)
  | .set _ => (by decide +kernel : (("set" : Str), (1 : Int)) ∈ kvThing)
  | .look => (by decide +kernel : (("look" : Str), (1 : Int)) ∈ kvThing)
  | .add _ => (by decide +kernel : (("add" : Str), (2 : Int)) ∈ kvThing)
  | .sum => (by decide +kernel : (("sum" : Str), (2 : Int)) ∈ kvThing)
  | .rais _ => (by decide +kernel : (("raise" : Str), (3 : Int)) ∈ kvThing)
  | .top => (by decide +kernel : (("top" : Str), (3 : Int)) ∈ kvThing)
  | .give _ => (by decide +kernel : (("give" : Str), (4 : Int)) ∈ kvThing)
  | .take => (by decide +kernel : (("take" : Str), (4 : Int)) ∈ kvThing)
theorem Deed.mem10 : ∀ d : Deed, d.word ∈ words10
  | .one => (by decide +kernel : ("one" : Str) ∈ words10)
  | .count => (by decide +kernel : ("count" : Str) ∈ words10)
  | .set _ => (by decide +kernel : ("set" : Str) ∈ words10)
  | .look => (by decide +kernel : ("look" : Str) ∈ words10)
  | .add _ => (by decide +kernel : ("add" : Str) ∈ words10)
  | .sum => (by decide +kernel : ("sum" : Str) ∈ words10)
  | .rais _ => (by decide +kernel : ("raise" : Str) ∈ words10)
  | .top => (by decide +kernel : ("top" : Str) ∈ words10)
  | .give _ => (by decide +kernel : ("give" : Str) ∈ words10)
  | .take => (by decide +kernel : ("take" : Str) ∈ words10)
theorem Deed.word_take : ∀ d : Deed, d.word = "take" → d = .take
  | .take, _ => rfl
  | .one, h => absurd h (by decide +kernel : ¬ (("one" : Str) = "take"))
  | .count, h => absurd h (by decide +kernel : ¬ (("count" : Str) = "take"))
  | .set _, h => absurd h (by decide +kernel : ¬ (("set" : Str) = "take"))
  | .look, h => absurd h (by decide +kernel : ¬ (("look" : Str) = "take"))
  | .add _, h => absurd h (by decide +kernel : ¬ (("add" : Str) = "take"))
  | .sum, h => absurd h (by decide +kernel : ¬ (("sum" : Str) = "take"))
  | .rais _, h => absurd h (by decide +kernel : ¬ (("raise" : Str) = "take"))
  | .top, h => absurd h (by decide +kernel : ¬ (("top" : Str) = "take"))
  | .give _, h => absurd h (by decide +kernel : ¬ (("give" : Str) = "take"))
theorem kv_of {w : Str} (h : w ∈ words10) : ∃ v, (w, v) ∈ kvThing := by
  obtain ⟨d, rfl⟩ := word_of h
  exact ⟨_, d.kv⟩
/-- a deed that hand h may do -/
def Good (H : Hp) (h : Int) (p : Addr) : Prop := ∃ d : Deed, DeedAt H p d ∧ d.ok ∧ (d = .take → h = 0)
def BadV (h : Int) (xs : List V) : Prop :=
  xs = [] ∨ (∃ w r, xs = .str w :: r ∧ w ∈ noThing) ∨ (∃ w r, xs = .str w :: r ∧ w ∈ with4 ∧ r.length ≠ 1) ∨ (∃ w n, xs = [.str w, .int n] ∧ w ∈ with4 ∧ ¬ (0 ≤ n ∧ n ≤ 999)) ∨
  (∃ w r, xs = .str w :: r ∧ w ∈ less6 ∧ r ≠ []) ∨ (xs = [.str "take"] ∧ h ≠ 0)
def Bad (H : Hp) (h : Int) (p : Addr) : Prop := ∃ xs, H p = some (.tup xs) ∧ BadV h xs
def spNN (ND : Addr) : Sp := fun vs H Q E => ∃ (p : Addr) (w : Str) (r : List V), vs = [.ref p] ∧ H p = some (.tup (.str w :: r)) ∧
  ((∃ n, r = [.int n] ∧ 0 ≤ n ∧ n ≤ 999 ∧ Q .non H) ∨ ((r.length ≠ 1 ∨ ∃ n, r = [.int n] ∧ ¬ (0 ≤ n ∧ n ≤ 999)) ∧ E (.ref ND) none H))
def spNeedDeed (ND : Addr) : Sp := fun vs H Q E => ∃ (p : Addr) (h : Int), vs = [.ref p, .int h] ∧ ((Good H h p ∧ Q .non H) ∨ (Bad H h p ∧ E (.ref ND) none H))
end Sd

/-! a hall in the heap -/
namespace Sd
open PySem L2
abbrev hfs (hand plan many ended ones took beg out reading readings steps : V) : List (Str × V) :=
  [(("_hand" : Str), hand), (("_plan" : Str), plan), (("_many" : Str), many), (("_ended" : Str), ended), (("_ones" : Str), ones), (("_took" : Str), took), (("_begin" : Str), beg), (("_outcome" : Str), out), (("_reading" : Str), reading), (("_readings" : Str), readings), (("steps" : Str), steps)]
abbrev gfs (boxes hands records marks touches : V) : List (Str × V) :=
  [(("_boxes" : Str), boxes), (("_hands" : Str), hands), (("_records" : Str), records), (("_marks" : Str), marks), (("_touches" : Str), touches)]
abbrev bfs (l : V) : List (Str × V) := [(("_numbers" : Str), l)]
/-- tuples stand -/
def Tu (H H' : Hp) : Prop := ∀ b xs, H b = some (.tup xs) → H' b = some (.tup xs)
theorem Tu.refl (H : Hp) : Tu H H := fun _ _ h => h
theorem Tu.trans {H H1 H2 : Hp} (a : Tu H H1) (b : Tu H1 H2) : Tu H H2 := fun c o h => b c o (a c o h)
theorem Tu.same {H H' : Hp} (s : Same H H') : Tu H H' := fun b xs h => s b _ h
theorem Tu.off {F : List Addr} {H H' : Hp} (s : Off F H H') (n : ∀ x ∈ F, ∀ xs, H x ≠ some (.tup xs)) : Tu H H' := fun b xs h => s b _ (fun m => n b m xs h) h
theorem Tu.upd {H : Hp} {p : Addr} {o : HO} (n : ∀ xs, H p ≠ some (.tup xs)) : Tu H (L2.upd H p o) := fun b xs h => by
  rw [upd_ne (fun z => n xs (by rw [← z]; exact h))]
  exact h
theorem Ans.At.tu {H H' : Hp} {v : V} {a : Ans} (h : a.At H v) (s : Tu H H') : a.At H' v := by
  cases a with
  | non => exact h
  | int n => exact h
  | view cs =>
    obtain ⟨p, e, hp⟩ := h
    exact ⟨p, e, s _ _ hp⟩
def MarkAt (H : Hp) (v : V) : Mark → Prop
  | .non => v = .non
  | .mom n => v = .int n
  | .gift h k => ∃ p, v = .ref p ∧ H p = some (.tup [.int h, .int k])
theorem MarkAt.tu {H H' : Hp} {v : V} {a : Mark} (h : MarkAt H v a) (s : Tu H H') : MarkAt H' v a := by
  cases a with
  | non => exact h
  | mom n => exact h
  | gift i k =>
    obtain ⟨p, e, hp⟩ := h
    exact ⟨p, e, s _ _ hp⟩
def numV : Option Int → V
  | none => .non
  | some n => .int n
def OutAt (H : Hp) (v : V) : Option Out → Prop
  | none => v = .non
  | some o => ∃ p av mv, v = .ref p ∧ H p = some (.tup [numV o.num, av, mv]) ∧ o.ans.At H av ∧ MarkAt H mv o.mark
theorem OutAt.tu {H H' : Hp} {v : V} {a : Option Out} (h : OutAt H v a) (s : Tu H H') : OutAt H' v a := by
  cases a with
  | none => exact h
  | some o =>
    obtain ⟨p, av, mv, e, hp, h1, h2⟩ := h
    exact ⟨p, av, mv, e, s _ _ hp, h1.tu s, h2.tu s⟩
def TouchAt (H : Hp) (v : V) (t : Touch) : Prop := ∃ p, v = .ref p ∧ H p = some (.tup [.int t.hand, .str (if t.put then "put" else "take"), .int t.place, .int t.num])
theorem TouchAt.tu {H H' : Hp} {v : V} {a : Touch} (h : TouchAt H v a) (s : Tu H H') : TouchAt H' v a := by
  obtain ⟨p, e, hp⟩ := h
  exact ⟨p, e, s _ _ hp⟩
def RecAt (H : Hp) (v : V) (r : Rec) : Prop := ∃ p dp av, v = .ref p ∧ H p = some (.tup [.int r.hand, .ref dp, .int r.beg, .int r.fin, av]) ∧ DeedAt H dp r.deed ∧ r.ans.At H av
theorem RecAt.tu {H H' : Hp} {v : V} {a : Rec} (h : RecAt H v a) (s : Tu H H') : RecAt H' v a := by
  obtain ⟨p, dp, av, e, hp, h1, h2⟩ := h
  exact ⟨p, dp, av, e, s _ _ hp, s _ _ h1, h2.tu s⟩
def PlanAt (H : Hp) (ps : List Addr) (plan : List Deed) : Prop := Paired (fun p d => DeedAt H p d) ps plan
theorem PlanAt.tu {H H' : Hp} {ps : List Addr} {plan : List Deed} (h : PlanAt H ps plan) (s : Tu H H') : PlanAt H' ps plan := L2.Paired.mapP h fun a b e => s _ _ e
/-- the objects of one hand -/
structure HG where
  hp : Addr
  tk : Addr
  rd : Addr
  rs : Addr
  pl : Addr
  rrs : List Addr
abbrev HG.list (g : HG) : List Addr := g.hp :: g.tk :: g.rd :: g.rs :: g.pl :: g.rrs
structure HandAt (C : Addr) (H : Hp) (g : HG) (i many : Nat) (plan : List Deed) (h : HandM) : Prop where
  ob : ∃ dx ov, H g.hp = some (.ins C dx (hfs (.int i) (.ref g.pl) (.int many) (.int h.ended) (.int h.ones) (.ref g.tk) (.int h.beg) ov (.ref g.rd) (.ref g.rs) (.int h.steps))) ∧ OutAt H ov h.out
  pl : ∃ ps : List Addr, H g.pl = some (.lst (ps.map V.ref)) ∧ PlanAt H ps plan
  tk : H g.tk = some (.lst (h.took.map fun n : Nat => V.int (n : Int)))
  rd : H g.rd = some (.lst (h.reading.map V.int))
  rs : H g.rs = some (.lst (g.rrs.map V.ref))
  rr : Paired (fun p r => H p = some (.lst (r.map V.int))) g.rrs h.readings
  n1 : g.tk ≠ g.rd ∧ g.tk ≠ g.rs ∧ g.rd ≠ g.rs ∧ g.pl ≠ g.tk ∧ g.pl ≠ g.rd ∧ g.pl ≠ g.rs
  n2 : g.tk ∉ g.rrs ∧ g.rd ∉ g.rrs ∧ g.rs ∉ g.rrs
theorem HandAt.noTup {C : Addr} {H : Hp} {g : HG} {i many : Nat} {plan : List Deed} {h : HandM} (a : HandAt C H g i many plan h) : ∀ x ∈ g.list, ∀ xs, H x ≠ some (.tup xs) := by
  intro x hx xs e
  rcases List.mem_cons.mp hx with rfl | hx
  · obtain ⟨_, _, e2, _⟩ := a.ob
    rw [e2] at e; cases e
  rcases List.mem_cons.mp hx with rfl | hx
  · rw [a.tk] at e; cases e
  rcases List.mem_cons.mp hx with rfl | hx
  · rw [a.rd] at e; cases e
  rcases List.mem_cons.mp hx with rfl | hx
  · rw [a.rs] at e; cases e
  rcases List.mem_cons.mp hx with rfl | hx
  · obtain ⟨_, e2, _⟩ := a.pl
    rw [e2] at e; cases e
  · obtain ⟨i, hi, ei⟩ := List.mem_iff_getElem.mp hx
    have : ∀ {ps : List Addr} {rs : List (List Int)}, Paired (fun p r => H p = some (.lst (r.map V.int))) ps rs → ∀ y ∈ ps, ∃ r : List Int, H y = some (.lst (r.map V.int)) := by
      intro ps rs hp
      induction hp with
      | nil => intro y hy; cases hy
      | cons r t ih =>
        intro y hy
        rcases List.mem_cons.mp hy with rfl | hy
        · exact ⟨_, r⟩
        · exact ih y hy
    obtain ⟨r, hr⟩ := this a.rr x hx
    rw [hr] at e
    cases e
theorem HandAt.off {C : Addr} {H H' : Hp} {g : HG} {i many : Nat} {plan : List Deed} {h : HandM} {F : List Addr} (a : HandAt C H g i many plan h) (o : Off F H H') (n : ∀ x ∈ g.list, x ∉ F) (t : Tu H H') : HandAt C H' g i many plan h := by
  obtain ⟨dx, ov, h1, h2⟩ := a.ob
  obtain ⟨ps, p1, p2⟩ := a.pl
  refine ⟨⟨dx, ov, o _ _ (n _ (by simp)) h1, h2.tu t⟩, ⟨ps, o _ _ (n _ (by simp)) p1, p2.tu t⟩, o _ _ (n _ (by simp)) a.tk, o _ _ (n _ (by simp)) a.rd, o _ _ (n _ (by simp)) a.rs, ?_, a.n1, a.n2⟩
  have : ∀ {ps : List Addr} {rs : List (List Int)}, Paired (fun p r => H p = some (.lst (r.map V.int))) ps rs → (∀ y ∈ ps, y ∉ F) → Paired (fun p r => H' p = some (.lst (r.map V.int))) ps rs := by
    intro ps rs hp
    induction hp with
    | nil => intro _; exact .nil
    | cons r t ih => intro m; exact .cons (o _ _ (m _ List.mem_cons_self) r) (ih fun y hy => m y (List.mem_cons_of_mem _ hy))
  exact this a.rr fun y hy => n y (by simp only [HG.list, List.mem_cons]; exact .inr (.inr (.inr (.inr (.inr hy)))))
/-- the objects of a hall -/
structure HallG where
  ha : Addr
  bx : Addr
  bl : Addr
  hl : Addr
  rc : Addr
  mr : Addr
  tc : Addr
  hs : List HG
abbrev HallG.own (g : HallG) : List Addr := [g.ha, g.bx, g.bl, g.hl, g.rc, g.mr, g.tc]
abbrev HallG.list (g : HallG) : List Addr := g.own ++ g.hs.flatMap HG.list
structure HallAt (CB CD CH : Addr) (H : Hp) (g : HallG) (s : HallM) : Prop where
  ob : ∃ dx, H g.ha = some (.ins CH dx (gfs (.ref g.bx) (.ref g.hl) (.ref g.rc) (.ref g.mr) (.ref g.tc)))
  bx : ∃ dx, H g.bx = some (.ins CB dx (bfs (.ref g.bl)))
  bl : H g.bl = some (.lst (s.boxes.map V.int))
  hl : H g.hl = some (.lst (g.hs.map fun x => V.ref x.hp))
  rc : ∃ vs, H g.rc = some (.lst vs) ∧ Paired (RecAt H) vs s.recs
  mr : ∃ vs, H g.mr = some (.lst vs) ∧ Paired (MarkAt H) vs s.marks
  tc : ∃ vs, H g.tc = some (.lst vs) ∧ Paired (TouchAt H) vs s.touches
  len : g.hs.length = s.many
  hand : ∀ (i : Nat) (x : HG), g.hs[i]? = some x → HandAt CD H x i s.many (s.plan i) (s.hand i)
  own : [g.bl, g.hl, g.rc, g.mr, g.tc].Nodup ∧ g.ha ≠ g.bx
  apart : ∀ (i : Nat) (x : HG), g.hs[i]? = some x → ∀ y ∈ x.list, y ∉ g.own
  sep : ∀ (i j : Nat) (x z : HG), i ≠ j → g.hs[i]? = some x → g.hs[j]? = some z → ∀ y ∈ x.list, y ∉ z.list
end Sd
namespace Sd
open PySem L2
theorem HandAt.tracked {C : Addr} {H : Hp} {g : HG} {i many : Nat} {plan : List Deed} {h : HandM} (a : HandAt C H g i many plan h) : ∀ x ∈ g.list, ∃ o, H x = some o := by
  intro x hx
  rcases List.mem_cons.mp hx with rfl | hx
  · obtain ⟨_, _, e2, _⟩ := a.ob
    exact ⟨_, e2⟩
  rcases List.mem_cons.mp hx with rfl | hx
  · exact ⟨_, a.tk⟩
  rcases List.mem_cons.mp hx with rfl | hx
  · exact ⟨_, a.rd⟩
  rcases List.mem_cons.mp hx with rfl | hx
  · exact ⟨_, a.rs⟩
  rcases List.mem_cons.mp hx with rfl | hx
  · obtain ⟨_, e2, _⟩ := a.pl
    exact ⟨_, e2⟩
  · have : ∀ {ps : List Addr} {rs : List (List Int)}, Paired (fun p r => H p = some (.lst (r.map V.int))) ps rs → ∀ y ∈ ps, ∃ r : List Int, H y = some (.lst (r.map V.int)) := by
      intro ps rs hp
      induction hp with
      | nil => intro y hy; cases hy
      | cons r t ih =>
        intro y hy
        rcases List.mem_cons.mp hy with rfl | hy
        · exact ⟨_, r⟩
        · exact ih y hy
    obtain ⟨r, hr⟩ := this a.rr x hx
    exact ⟨_, hr⟩
theorem HandAt.same {C : Addr} {H H' : Hp} {g : HG} {i many : Nat} {plan : List Deed} {h : HandM} (a : HandAt C H g i many plan h) (s : Same H H') : HandAt C H' g i many plan h :=
  a.off (F := []) (Off.of_same s) (by simp) (Tu.same s)
/-- the hands made so far -/
structure Made (C : Addr) (H0 H : Hp) (D : Addr) (gs : List HG) (m : Nat) (plans : List (List Deed)) : Prop where
  lst : H D = some (.lst (gs.map fun x => V.ref x.hp))
  hand : ∀ (i : Nat) (x : HG), gs[i]? = some x → HandAt C H x i m (plans.getD i []) (HandM.new m)
  free : ∀ x ∈ gs, ∀ y ∈ x.list, H0 y = none ∧ y ≠ D
  sep : ∀ (i j : Nat) (x z : HG), i ≠ j → gs[i]? = some x → gs[j]? = some z → ∀ y ∈ x.list, y ∉ z.list
theorem Made.add {C D : Addr} {H0 H H' : Hp} {gs : List HG} {m : Nat} {plans : List (List Deed)} {g : HG} (a : Made C H0 H D gs m plans) (s0 : Same H0 H) (s : Same H H') (h : HandAt C H' g gs.length m (plans.getD gs.length []) (HandM.new m)) (hf : ∀ y ∈ g.list, H y = none) (hD : D ∉ g.list) :
    Made C H0 (upd H' D (.lst ((gs.map fun x => V.ref x.hp) ++ [.ref g.hp]))) D (gs ++ [g]) m plans := by
  have oD : Off [D] H' (upd H' D (.lst ((gs.map fun x => V.ref x.hp) ++ [.ref g.hp]))) := Off.upd (List.mem_singleton.mpr rfl)
  have tD : Tu H' (upd H' D (.lst ((gs.map fun x => V.ref x.hp) ++ [.ref g.hp]))) := Tu.upd fun xs e => by
    rw [s _ _ a.lst] at e
    cases e
  refine ⟨?_, ?_, ?_, ?_⟩
  · rw [upd_same, List.map_append]
    rfl
  · intro i x hx
    rcases Nat.lt_trichotomy i gs.length with c | c | c
    · rw [List.getElem?_append_left c] at hx
      refine ((a.hand i x hx).same s).off oD (fun y hy mm => ?_) tD
      exact ((a.free x (List.mem_of_getElem? hx)) y hy).2 (List.mem_singleton.mp mm)
    · subst c
      rw [List.getElem?_append_right (Nat.le_refl _), Nat.sub_self] at hx
      cases hx
      exact h.off oD (fun y hy mm => hD (by rw [← List.mem_singleton.mp mm]; exact hy)) tD
    · rw [List.getElem?_eq_none (by rw [List.length_append]; exact c)] at hx
      cases hx
  · intro x hx y hy
    rcases List.mem_append.mp hx with hx | hx
    · exact a.free x hx y hy
    · rw [List.mem_singleton.mp hx] at hy
      exact ⟨s0.free (hf y hy), fun z => hD (by rw [← z]; exact hy)⟩
  · intro i j x z n hx hz y hy hy2
    have old : ∀ (i : Nat) (x : HG), (gs ++ [g])[i]? = some x → (i < gs.length ∧ gs[i]? = some x) ∨ (i = gs.length ∧ x = g) := fun i x hx => by
      rcases Nat.lt_trichotomy i gs.length with c | c | c
      · rw [List.getElem?_append_left c] at hx
        exact .inl ⟨c, hx⟩
      · subst c
        rw [List.getElem?_append_right (Nat.le_refl _), Nat.sub_self] at hx
        cases hx
        exact .inr ⟨rfl, rfl⟩
      · rw [List.getElem?_eq_none (by rw [List.length_append]; exact c)] at hx
        cases hx
    rcases old i x hx with ⟨c1, e1⟩ | ⟨c1, e1⟩
    · rcases old j z hz with ⟨c2, e2⟩ | ⟨c2, e2⟩
      · exact a.sep i j x z n e1 e2 y hy hy2
      · obtain ⟨o, ho⟩ := (a.hand i x e1).tracked y hy
        rw [hf y (by rw [← e2]; exact hy2)] at ho
        cases ho
    · rcases old j z hz with ⟨c2, e2⟩ | ⟨c2, e2⟩
      · obtain ⟨o, ho⟩ := (a.hand j z e2).tracked y hy2
        rw [hf y (by rw [← e1]; exact hy)] at ho
        cases ho
      · omega
end Sd

/-! what the making of a hall promises -/
namespace Sd
open PySem L2
def spBInit (C : Addr) : Sp := fun vs H Q _ => ∃ (p dx : Addr) (n : Int), vs = [.ref p, .int n] ∧ 0 ≤ n ∧ n ≤ 100000 ∧ H p = some (.ins C dx []) ∧
  ∀ (l : Addr) (H' : Hp), H l = none → But p H H' → H' p = some (.ins C dx (bfs (.ref l))) → H' l = some (.lst ((List.replicate n.toNat (0 : Int)).map V.int)) → Q .non H'
def spHandInit (C : Addr) : Sp := fun vs H Q _ => ∃ (p pl dx : Addr) (i m : Nat) (ps : List Addr) (plan : List Deed), vs = [.ref p, .int i, .ref pl, .int m] ∧ H p = some (.ins C dx []) ∧ H pl = some (.lst (ps.map V.ref)) ∧ PlanAt H ps plan ∧ m ≤ 100 ∧
  ∀ (g : HG) (H' : Hp), g.hp = p → g.pl = pl → g.rrs = [] → H g.tk = none → H g.rd = none → H g.rs = none → But p H H' → HandAt C H' g i m plan (HandM.new m) → Q .non H'
/-- the plans handed in: a list of lists of deeds -/
def PlansAt (H : Hp) (pl : Addr) (ls : List Addr) (pss : List (List Addr)) : Prop := H pl = some (.lst (ls.map V.ref)) ∧ Paired (fun l ps => H l = some (.lst (ps.map V.ref))) ls pss
def GoodPlan (H : Hp) (h : Int) (ps : List Addr) : Prop := ps.length ≤ 40 ∧ ∀ p ∈ ps, Good H h p
def BadPlan (H : Hp) (h : Int) (ps : List Addr) : Prop := 40 < ps.length ∨ ∃ (k : Nat) (p : Addr), ps[k]? = some p ∧ Bad H h p ∧ ∀ (j : Nat) (q : Addr), j < k → ps[j]? = some q → Good H h q
def spNeedPlans (NH ND : Addr) : Sp := fun vs H Q E => ∃ (pl : Addr) (ls : List Addr) (pss : List (List Addr)), vs = [.ref pl] ∧ PlansAt H pl ls pss ∧ pss.length ≤ 1000 ∧ (∀ ps ∈ pss, ps.length ≤ 100000) ∧
  ((0 < pss.length ∧ pss.length ≤ 4 ∧ (∀ (i : Nat) (ps : List Addr), pss[i]? = some ps → GoodPlan H i ps) ∧ Q .non H) ∨ ((pss.length = 0 ∨ 4 < pss.length) ∧ E (.ref NH) none H) ∨
    (0 < pss.length ∧ pss.length ≤ 4 ∧ (∃ (i : Nat) (ps : List Addr), pss[i]? = some ps ∧ BadPlan H i ps ∧ ∀ (j : Nat) (qs : List Addr), j < i → pss[j]? = some qs → GoodPlan H j qs) ∧ E (.ref ND) none H))
def spHallInit (CB CD CH NH ND : Addr) : Sp := fun vs H Q E => ∃ (p dx pl : Addr) (ls : List Addr) (pss : List (List Addr)), vs = [.ref p, .ref pl] ∧ H p = some (.ins CH dx []) ∧ PlansAt H pl ls pss ∧ pss.length ≤ 1000 ∧ (∀ ps ∈ pss, ps.length ≤ 100000) ∧
  ((∃ plans : List (List Deed), 0 < pss.length ∧ pss.length ≤ 4 ∧ (∀ (i : Nat) (ps : List Addr), pss[i]? = some ps → GoodPlan H i ps) ∧ Paired (fun ps plan => PlanAt H ps plan) pss plans ∧
      ∀ (g : HallG) (H' : Hp), g.ha = p → (∀ x ∈ g.list, x ≠ p → H x = none) → But p H H' → HallAt CB CD CH H' g (HallM.new plans) → Q .non H') ∨ ((pss.length = 0 ∨ 4 < pss.length) ∧ E (.ref NH) none H) ∨
    (0 < pss.length ∧ pss.length ≤ 4 ∧ (∃ (i : Nat) (ps : List Addr), pss[i]? = some ps ∧ BadPlan H i ps ∧ ∀ (j : Nat) (qs : List Addr), j < i → pss[j]? = some qs → GoodPlan H j qs) ∧ ∀ H', Same H H' → E (.ref ND) none H'))
def spRecords (CB CD CH : Addr) : Sp := fun vs H Q _ => ∃ (g : HallG) (s : HallM), vs = [.ref g.ha] ∧ HallAt CB CD CH H g s ∧
  ∀ (p : Addr) (rs : List V), H p = none → Paired (RecAt H) rs s.recs → Q (.ref p) (upd H p (.lst rs))
theorem Paired.get {α β : Type} {R : α → β → Prop} : ∀ {xs : List α} {ys : List β}, Paired R xs ys → ∀ {i : Nat} {y : β}, ys[i]? = some y → ∃ x, xs[i]? = some x ∧ R x y
  | _, _, .nil, i, y, h => by cases h
  | _, _, .cons r t, 0, y, h => by cases h; exact ⟨_, rfl, r⟩
  | _, _, .cons r t, i + 1, y, h => Paired.get t h
theorem Paired.get2 {α β : Type} {R : α → β → Prop} : ∀ {xs : List α} {ys : List β}, Paired R xs ys → ∀ {i : Nat} {x : α}, xs[i]? = some x → ∃ y, ys[i]? = some y ∧ R x y
  | _, _, .nil, i, y, h => by cases h
  | _, _, .cons r t, 0, y, h => by cases h; exact ⟨_, rfl, r⟩
  | _, _, .cons r t, i + 1, y, h => Paired.get2 t h
theorem Paired.len {α β : Type} {R : α → β → Prop} {xs : List α} {ys : List β} (h : Paired R xs ys) : xs.length = ys.length := PySem.Paired.length h
end Sd

/-! the law's draws of plans -/
namespace Sd
open PySem L2
/-- plans that were drawn: all in new lists -/
structure DrawnP (H0 H : Hp) (pl : Addr) (ls : List Addr) (pss : List (List Addr)) (plans : List (List Deed)) (most : Nat) : Prop where
  hpl : H pl = some (.lst (ls.map V.ref))
  hls : Paired (fun l ps => H l = some (.lst (ps.map V.ref))) ls pss
  hps : Paired (fun ps plan => PlanAt H ps plan) pss plans
  fpl : H0 pl = none
  fls : ∀ l ∈ ls, H0 l = none
  npl : pl ∉ ls
  nls : ls.Nodup
  short : ∀ plan ∈ plans, plan.length ≤ most
  ok : ∀ plan ∈ plans, ∀ d ∈ plan, d.ok
  take : ∀ (i : Nat) (plan : List Deed), plans[i]? = some plan → ∀ d ∈ plan, d = .take → i = 0
def spPlans (K : PySem.W.Frag) : Sp := fun vs H Q _ => ∃ (d a wl : Addr) (ns : List Int) (ws : List Str) (m most : Nat), vs = [.ref d, .int m, .ref wl, .int most] ∧ Dice H d a ∧ SqL K H a (ns.map V.int) ∧
  H wl = some (.lst (ws.map V.str)) ∧ wl ≠ d ∧ (∀ w ∈ ws, w ∈ words10) ∧ 0 < ws.length ∧ ws.length ≤ 100 ∧ m ≤ 100 ∧ most ≤ 1000 ∧
  ∀ pl ls pss plans H', DrawnP H H' pl ls pss plans most → plans.length = m → Dice H' d a → SqL K H' a (ns.map V.int) → But d H H' → Q (.ref pl) H'
theorem Paired.mapM {α β : Type} {R R' : α → β → Prop} : ∀ {xs : List α} {ys : List β}, Paired R xs ys → (∀ x ∈ xs, ∀ y, R x y → R' x y) → Paired R' xs ys
  | _, _, .nil, _ => .nil
  | _, _, .cons r t, h => .cons (h _ List.mem_cons_self _ r) (Paired.mapM t fun x hx y => h x (List.mem_cons_of_mem _ hx) y)
theorem Paired.app {α β : Type} {R : α → β → Prop} {x : α} {y : β} : ∀ {xs : List α} {ys : List β}, Paired R xs ys → R x y → Paired R (xs ++ [x]) (ys ++ [y])
  | _, _, .nil, h => .cons h .nil
  | _, _, .cons r t, h => .cons r (Paired.app t h)
theorem DrawnP.mono {H0 H H' : Hp} {pl : Addr} {ls : List Addr} {pss : List (List Addr)} {plans : List (List Deed)} {most : Nat} {F : List Addr} (a : DrawnP H0 H pl ls pss plans most) (o : Off F H H') (n : ∀ x ∈ pl :: ls, x ∉ F) (t : Tu H H') : DrawnP H0 H' pl ls pss plans most :=
  ⟨o _ _ (n _ List.mem_cons_self) a.hpl, Paired.mapM a.hls fun x hx y e => o _ _ (n _ (List.mem_cons_of_mem _ hx)) e, Paired.mapM a.hps fun x _ y e => e.tu t, a.fpl, a.fls, a.npl, a.nls, a.short, a.ok, a.take⟩
theorem DrawnP.add {H0 H : Hp} {pl p : Addr} {ls ps : List Addr} {pss : List (List Addr)} {plans : List (List Deed)} {plan : List Deed} {most : Nat} (a : DrawnP H0 H pl ls pss plans most) (hp : H p = some (.lst (ps.map V.ref))) (hps : PlanAt H ps plan) (fp : H0 p = none) (n1 : p ≠ pl) (n2 : p ∉ ls)
    (h1 : plan.length ≤ most) (h2 : ∀ d ∈ plan, d.ok) (h3 : ∀ d ∈ plan, d = .take → plans.length = 0) : DrawnP H0 (upd H pl (.lst ((ls.map V.ref) ++ [.ref p]))) pl (ls ++ [p]) (pss ++ [ps]) (plans ++ [plan]) most := by
  have t : Tu H (upd H pl (.lst ((ls.map V.ref) ++ [.ref p]))) := Tu.upd fun xs e => by
    rw [a.hpl] at e
    cases e
  refine ⟨?_, ?_, ?_, a.fpl, ?_, ?_, ?_, ?_, ?_, ?_⟩
  · rw [upd_same, List.map_append]
    rfl
  · refine Paired.app (Paired.mapM a.hls fun x hx y e => ?_) ?_
    · rw [upd_ne (fun z => a.npl (by rw [← z]; exact hx))]
      exact e
    · rw [upd_ne n1]
      exact hp
  · exact Paired.app (Paired.mapM a.hps fun x _ y e => e.tu t) (hps.tu t)
  · intro l hl
    rcases List.mem_append.mp hl with hl | hl
    · exact a.fls l hl
    · rw [List.mem_singleton.mp hl]
      exact fp
  · intro hm
    rcases List.mem_append.mp hm with hm | hm
    · exact a.npl hm
    · exact n1 (List.mem_singleton.mp hm).symm
  · refine List.nodup_append.mpr ⟨a.nls, by simp, fun x hx y hy => ?_⟩
    rw [List.mem_singleton.mp hy]
    exact fun z => n2 (by rw [← z]; exact hx)
  · intro q hq
    rcases List.mem_append.mp hq with hq | hq
    · exact a.short q hq
    · rw [List.mem_singleton.mp hq]
      exact h1
  · intro q hq
    rcases List.mem_append.mp hq with hq | hq
    · exact a.ok q hq
    · rw [List.mem_singleton.mp hq]
      exact h2
  · intro i q hq d hd ht
    rcases Nat.lt_or_ge i plans.length with c | c
    · rw [List.getElem?_append_left c] at hq
      exact a.take i q hq d hd ht
    · rw [List.getElem?_append_right c] at hq
      cases e : i - plans.length with
      | zero =>
        rw [e] at hq
        cases hq
        have := h3 d hd ht
        omega
      | succ n =>
        rw [e] at hq
        rw [List.getElem?_cons_succ, List.getElem?_nil] at hq
        cases hq
end Sd

/-! what the hand's functions promise -/
namespace Sd
open PySem L2
theorem atI_neg {α : Type} {xs : List α} {k : Nat} {v : α} (hk : 0 < k) (hl : k ≤ xs.length) (h : xs[xs.length - k]? = some v) : atI xs (-(k : Int)) = some v := by
  have e : ixN xs.length (-(k : Int)) = some (xs.length - k) := by
    unfold ixN
    rw [if_neg (by omega), if_pos (by omega)]
    congr 1
    omega
  unfold atI
  rw [e]
  exact h
/-- lists of numbers in a list -/
def LstsAt (H : Hp) (p : Addr) (rps : List Addr) (rows : List (List Int)) : Prop := H p = some (.lst (rps.map V.ref)) ∧ Paired (fun q r => H q = some (.lst (r.map V.int))) rps rows
theorem LstsAt.same {H H' : Hp} {p : Addr} {rps : List Addr} {rows : List (List Int)} (h : LstsAt H p rps rows) (s : Same H H') : LstsAt H' p rps rows := ⟨s _ _ h.1, Paired.mapM h.2 fun x _ y e => s _ _ e⟩
theorem LstsAt.at_ {H : Hp} {p : Addr} {rps : List Addr} {rows : List (List Int)} (h : LstsAt H p rps rows) {i : Nat} {r : List Int} (e : rows[i]? = some r) : ∃ q, atI (rps.map V.ref) (i : Int) = some (.ref q) ∧ H q = some (.lst (r.map V.int)) := by
  obtain ⟨q, hq, hr⟩ := Paired.get h.2 e
  exact ⟨q, atI_nat (by rw [List.getElem?_map, hq]; rfl), hr⟩
theorem LstsAt.neg {H : Hp} {p : Addr} {rps : List Addr} {rows : List (List Int)} (h : LstsAt H p rps rows) {k : Nat} (hk : 0 < k) (hl : k ≤ rows.length) {r : List Int} (e : rows[rows.length - k]? = some r) : ∃ q, atI (rps.map V.ref) (-(k : Int)) = some (.ref q) ∧ H q = some (.lst (r.map V.int)) := by
  have hlen := Paired.len h.2
  obtain ⟨q, hq, hr⟩ := Paired.get h.2 e
  exact ⟨q, atI_neg hk (by rw [List.length_map]; omega) (by rw [List.length_map, hlen, List.getElem?_map, hq]; rfl), hr⟩
theorem last_at {rs : List (List Int)} (h : rs ≠ []) : rs[rs.length - 1]? = some (last rs) := by
  have h0 : 0 < rs.length := List.length_pos_iff.mpr h
  unfold last
  rw [List.getLastD_eq_getLast?, List.getLast?_eq_getElem?, List.getElem?_eq_getElem (by omega)]
  rfl
theorem last2_at {rs : List (List Int)} (h : 2 ≤ rs.length) : rs[rs.length - 2]? = some (last rs.dropLast) := by
  have e := last_at (rs := rs.dropLast) (fun z => by
    have := congrArg List.length z
    rw [List.length_dropLast, List.length_nil] at this
    omega)
  rw [List.length_dropLast] at e
  rw [← e, show rs.length - 1 - 1 = rs.length - 2 by omega, List.getElem?_dropLast, if_pos (by omega)]
def spCnt : Sp := fun vs H Q _ => ∃ (dp rs : Addr) (d : Deed) (ones : Int) (rps : List Addr) (rds : List (List Int)), vs = [.ref dp, .int ones, .ref rs] ∧ DeedAt H dp d ∧ d.thing = 0 ∧ LstsAt H rs rps rds ∧
  ∀ u H', Same H H' → OutAt H' u (cntOut d ones rds) → Q u H'
def spPacked (K : PySem.W.Frag) : Sp := fun vs H Q _ => ∃ (a : Addr) (row : List Int), vs = [.ref a] ∧ SqL K H a (row.map V.int) ∧ In6 row ∧ Q (.int (enc row)) H
def spParted : Sp := fun vs H Q _ => ∃ (n : Int) (row : List Int), vs = [.int n] ∧ In6 row ∧ row.length ≤ 1000 ∧ (n = enc row ∨ (n = 0 ∧ row = [])) ∧ ∀ p, H p = none → ∀ H', Same H H' → H' p = some (.lst (row.map V.int)) → Q (.ref p) H'
def spRow : Sp := fun vs H Q _ => ∃ (n : Int) (many : Nat), vs = [.int n] ∧ PicOk many n ∧ many ≤ 4 ∧ ∀ p, H p = none → ∀ H', Same H H' → H' p = some (.lst ((row0 n).map V.int)) → Q (.ref p) H'
def spCellB : Sp := fun vs H Q _ => ∃ (dp : Addr) (d : Deed) (c : Int), vs = [.ref dp, .int c] ∧ DeedAt H dp d ∧ (∃ n, d = .set n ∨ d = .add n ∨ d = .rais n) ∧ Q (.int (behindCell c d)) H
def spView : Sp := fun vs H Q _ => ∃ (rs : Addr) (rps : List Addr) (rds : List (List Int)) (many : Nat), vs = [.ref rs] ∧ LstsAt H rs rps rds ∧ (∀ r ∈ rds, RdOk many 1 r) ∧ many ≤ 4 ∧ 0 < many ∧ rds.length ≤ 1000 ∧
  (view many rds = none → ∀ H', Same H H' → Q .non H') ∧ ∀ v, view many rds = some v → ∀ p H', H p = none → Same H H' → H' p = some (.lst (v.map V.int)) → Q (.ref p) H'
def spPic : Sp := fun vs H Q _ => ∃ (dp rs : Addr) (rps : List Addr) (rds : List (List Int)) (many i : Nat) (d : Deed), vs = [.ref dp, .int i, .ref rs] ∧ DeedAt H dp d ∧ d.thing ≠ 0 ∧ d.thing ≠ 4 ∧ d.ok ∧ i < many ∧ LstsAt H rs rps rds ∧ (∀ r ∈ rds, RdOk many 1 r) ∧ many ≤ 4 ∧ rds.length ≤ 1000 ∧
  ∀ u H', Same H H' → OutAt H' u (picOut many i d rds) → Q u H'
def trip (x : Int × Nat × Int) : List Int := [x.1, x.2.1, x.2.2]
def TooksAt (H : Hp) (tk : Addr) (took : List Nat) : Prop := H tk = some (.lst (took.map fun n : Nat => V.int (n : Int)))
def RowOk (row : List Int) : Prop := In5 row ∧ row.length ≤ 900 ∧ row.length % 2 = 0
def spLeft : Sp := fun vs H Q _ => ∃ (rp tk : Addr) (rps : List Addr) (rows : List (List Int)) (took : List Nat), vs = [.ref rp, .ref tk] ∧ LstsAt H rp rps rows ∧ TooksAt H tk took ∧ took.length = rows.length ∧ rows.length ≤ 1000 ∧ (∀ r ∈ rows, RowOk r) ∧
  ∀ p H' (bs : List (Addr × List Int)), H p = none → Same H H' → H' p = some (.lst (bs.map fun b => V.ref b.1)) → (∀ b ∈ bs, H' b.1 = some (.tup (b.2.map V.int))) → bs.map (·.2) = (left took rows).map trip → Q (.ref p) H'
def spGiven : Sp := fun vs H Q _ => ∃ (rp : Addr) (rps : List Addr) (rows : List (List Int)) (i : Nat) (n : Int), vs = [.ref rp, .int i, .int n] ∧ LstsAt H rp rps rows ∧ i < rows.length ∧ rows.length ≤ 1000 ∧ (∀ r ∈ rows, RowOk r) ∧ 0 ≤ n ∧ n ≤ 999 ∧
  ∀ u H', Same H H' → OutAt H' u (some ⟨some (enc (rows.getD i [] ++ [n, stamp rows])), .non, .gift i ((rows.getD i []).length / 2)⟩) → Q u H'
def spLine : Sp := fun vs H Q _ => ∃ (dp rs tk : Addr) (rps : List Addr) (rds : List (List Int)) (took : List Nat) (many i : Nat) (d : Deed), vs = [.ref dp, .int i, .ref tk, .ref rs] ∧ DeedAt H dp d ∧ d.thing = 4 ∧ d.ok ∧ i < many ∧ LstsAt H rs rps rds ∧ (∀ r ∈ rds, RdOk many 4 r) ∧ many ≤ 4 ∧ rds.length ≤ 1000 ∧
  TooksAt H tk took ∧ took.length = many ∧ ∀ u H', Same H H' → OutAt H' u (lineOut i d took rds) → Q u H'
theorem Row.sp {n : Int} {row : List Int} (h : Row n row) : In6 row ∧ (n = enc row ∨ (n = 0 ∧ row = [])) := h
end Sd
namespace Sd
open PySem L2 PySem.W
def rMax0 (K : PySem.W.Frag) : List V → List V → Hp → VK → Prop := fun vs zs H Q => ∃ (a : Addr) (ns : List Int), vs = [V.ref a] ∧ zs = [.int 0] ∧ SqL K H a (ns.map V.int) ∧ (∀ x ∈ ns, 0 ≤ x) ∧ Q (.int (top0 ns)) H
theorem cr_max0 {X : Cx} (hc : X.calm = true) (hu : X.A.units + 64 < cLine) : CallRK X (.builtin "max") ["default"] (rMax0 X.K) := by
  intro pins s σ H xs zs us ws Q I r1 r2 h
  obtain ⟨a, ns, rfl, rfl, hs, h0, q⟩ := h
  refine cr_maxDef hc hu pins s σ H _ _ us ws Q I r1 r2 ⟨a, ns, .int 0, rfl, rfl, hs, fun e => ?_, fun m h1 h2 => ?_⟩
  · rw [e] at q
    exact q
  · rw [top0_of h0 h1 h2]
    exact q
/-- max of numbers from 0 on -/
def rMaxP (K : PySem.W.Frag) : List V → Hp → VK → Prop := fun vs H Q => ∃ (a : Addr) (ns : List Int), vs = [V.ref a] ∧ SqL K H a (ns.map V.int) ∧ 0 < ns.length ∧ (∀ x ∈ ns, 0 ≤ x) ∧ Q (.int (top0 ns)) H
theorem cr_maxP {X : Cx} (hc : X.calm = true) : CallR X (.builtin "max") (rMaxP X.K) := by
  intro pins s σ H xs us Q I r h
  obtain ⟨a, ns, rfl, hs, hl, h0, q⟩ := h
  refine cr_max hc pins s σ H _ us Q I r ⟨a, ns, rfl, hs, hl, fun m h1 h2 => ?_⟩
  rw [top0_of h0 h1 h2]
  exact q
theorem trip_min {l : List (Int × Nat × Int)} (hp : l.Pairwise (fun a b => a.2.1 < b.2.1)) {y b : Int × Nat × Int} (hy : least l = some y) (hb : b ∈ l) (hm : ∀ c ∈ l, listLt (trip c) (trip b) = false) : b = y := by
  have hne : l ≠ [] := fun e => by rw [e] at hb; cases hb
  obtain ⟨y', e, hy2, h3⟩ := least_some hp hne
  rw [hy] at e
  cases e
  have h1 := hm y hy2
  have h2 := h3 b hb
  have e : listLt (trip y) (trip b) = if y.1 = b.1 then (if (y.2.1 : Int) = b.2.1 then (if y.2.2 = b.2.2 then false else decide (y.2.2 < b.2.2)) else decide ((y.2.1 : Int) < b.2.1)) else decide (y.1 < b.1) := rfl
  rw [e] at h1
  rcases h2 with h2 | ⟨h2, h4 | h4⟩
  · rw [if_neg (by omega), decide_eq_true h2] at h1
    cases h1
  · exact h4.symm
  · rw [if_pos h2, if_neg (by omega), decide_eq_true (by omega)] at h1
    cases h1
end Sd
namespace Sd
open PySem L2 PySem.W
theorem eqv_ints2 (a b : List Int) : PyData.eqv (dInts a) (dInts b) = decide (a = b) := Datum.eqv (α := List Int) a b
theorem PicOk.two {many : Nat} {n : Int} (h : PicOk many n) : (Sd.row0 n)[0]? = some ((Sd.row0 n).getD 0 0) ∧ (Sd.row0 n)[1]? = some ((Sd.row0 n).getD 1 0) := by
  obtain ⟨p, c, v, e, _⟩ := h.row0
  rw [e]
  exact ⟨rfl, rfl⟩
theorem range_drop {m i : Nat} (h : i < m) : (List.range m).drop i = i :: (List.range m).drop (i + 1) := by
  rw [List.drop_eq_getElem_cons (by rw [List.length_range]; exact h), List.getElem_range]
end Sd
namespace Sd
open PySem L2
/-- boxes in the heap -/
structure BxAt (C : Addr) (H : Hp) (b l : Addr) (xs : List Int) : Prop where
  ob : ∃ dx, H b = some (.ins C dx (bfs (.ref l)))
  ls : H l = some (.lst (xs.map V.int))
def spBNeed (C : Addr) : Sp := fun vs H Q _ => ∃ (b l : Addr) (xs : List Int) (j : Nat), vs = [.ref b, .int j] ∧ BxAt C H b l xs ∧ j < xs.length ∧ Q .non H
def spBTake (C : Addr) : Sp := fun vs H Q _ => ∃ (b l : Addr) (xs : List Int) (j : Nat), vs = [.ref b, .int j] ∧ BxAt C H b l xs ∧ j < xs.length ∧ Q (.int (xs.getD j 0)) H
def spBPut (C : Addr) : Sp := fun vs H Q _ => ∃ (b l : Addr) (xs : List Int) (j : Nat) (n : Int), vs = [.ref b, .int j, .int n] ∧ BxAt C H b l xs ∧ j < xs.length ∧ Q .non (upd H l (.lst ((xs.set j n).map V.int)))
def spThrough (C : Addr) : Sp := fun vs H Q _ => ∃ (g : HG) (i m : Nat) (plan : List Deed) (h : HandM), vs = [.ref g.hp] ∧ HandAt C H g i m plan h ∧ Q (.bl (decide (h.ended = plan.length))) H
/-- what is kept of the boxes is as the deed's thing wants it -/
structure RdPre (m : Nat) (d : Deed) (h : HandM) (i : Nat) : Prop where
  hi : i < m
  m4 : m ≤ 4
  ok : d.ok
  took : h.took.length = m
  rds : ∀ r ∈ h.readings, RdOk m d.thing r
  len : h.readings.length ≤ 1000
def spOutOf (C : Addr) : Sp := fun vs H Q _ => ∃ (g : HG) (dp : Addr) (i m : Nat) (plan : List Deed) (h : HandM) (d : Deed), vs = [.ref g.hp, .ref dp] ∧ HandAt C H g i m plan h ∧ DeedAt H dp d ∧ RdPre m d h i ∧
  ∀ u H', Same H H' → OutAt H' u (outOf m i d h) → Q u H'
/-- a hand's objects afterwards -/
def Grow (H : Hp) (g g' : HG) : Prop := g'.hp = g.hp ∧ ∀ x ∈ g'.list, x ∈ g.list ∨ H x = none
def spKeepN (C : Addr) : Sp := fun vs H Q _ => ∃ (g : HG) (dp : Addr) (i m : Nat) (plan : List Deed) (h : HandM) (d : Deed) (n : Int), vs = [.ref g.hp, .int n, .ref dp] ∧ HandAt C H g i m plan h ∧ DeedAt H dp d ∧ RdPre m d h i ∧ h.readings.length < 1000 ∧
  h.reading.length < m ∧ (∀ x ∈ h.reading, BoxOk m d.thing x) ∧ BoxOk m d.thing n ∧ ∀ g' H', HandAt C H' g' i m plan (h.keep m i d n) → Grow H g g' → Off g.list H H' → Q .non H'
def spHEnd (C : Addr) : Sp := fun vs H Q _ => ∃ (g : HG) (dp : Addr) (i m now : Nat) (plan : List Deed) (h : HandM) (d : Deed) (o : Out), vs = [.ref g.hp, .ref dp, .int now] ∧ HandAt C H g i m plan h ∧ DeedAt H dp d ∧ h.out = some o ∧ h.took.length = m ∧
  (∀ k l, o.mark = .gift k l → d = .take → k < m) ∧
  ∀ t rv mv H', H' t = some (.tup [rv, mv]) → RecAt H' rv (h.done i d now o).2.1 → MarkAt H' mv (h.done i d now o).2.2 → HandAt C H' g i m plan (h.done i d now o).1 → Off g.list H H' → Q (.ref t) H'
end Sd
namespace Sd
open PySem L2
def EndAt (H : Hp) (v : V) : Option (Rec × Mark) → Prop
  | none => v = .non
  | some (r, mk) => ∃ t rv mv, v = .ref t ∧ H t = some (.tup [rv, mv]) ∧ RecAt H rv r ∧ MarkAt H mv mk
theorem EndAt.tu {H H' : Hp} {v : V} {e : Option (Rec × Mark)} (h : EndAt H v e) (t : Tu H H') : EndAt H' v e := by
  cases e with
  | none => exact h
  | some x =>
    obtain ⟨p, rv, mv, e1, e2, e3, e4⟩ := h
    exact ⟨p, rv, mv, e1, t _ _ e2, e3.tu t, e4.tu t⟩
/-- the hand's own fields are stored anew, its lists are the same -/
theorem HandAt.store {C : Addr} {H : Hp} {g : HG} {i m : Nat} {plan : List Deed} {h h' : HandM} {dx : Addr} {fs : List (Str × V)} {ov : V} (a : HandAt C H g i m plan h) (e1 : h'.took = h.took) (e2 : h'.reading = h.reading) (e3 : h'.readings = h.readings)
    (ho : OutAt H ov h'.out) (hob : H g.hp = some (.ins C dx fs)) :
    HandAt C (upd H g.hp (.ins C dx (hfs (.int i) (.ref g.pl) (.int m) (.int h'.ended) (.int h'.ones) (.ref g.tk) (.int h'.beg) ov (.ref g.rd) (.ref g.rs) (.int h'.steps)))) g i m plan h' := by
  have t : Tu H (upd H g.hp (.ins C dx (hfs (.int i) (.ref g.pl) (.int m) (.int h'.ended) (.int h'.ones) (.ref g.tk) (.int h'.beg) ov (.ref g.rd) (.ref g.rs) (.int h'.steps)))) := Tu.upd fun xs e => by
    rw [hob] at e
    cases e
  have n : ∀ {x : Addr} {xs : List V}, H x = some (.lst xs) → x ≠ g.hp := fun e z => by rw [z, hob] at e; cases e
  obtain ⟨ps, p1, p2⟩ := a.pl
  refine ⟨⟨dx, ov, upd_same, ho.tu t⟩, ⟨ps, by rw [upd_ne (n p1)]; exact p1, p2.tu t⟩, ?_, ?_, ?_, ?_, a.n1, a.n2⟩
  · rw [upd_ne (n a.tk), e1]; exact a.tk
  · rw [upd_ne (n a.rd), e2]; exact a.rd
  · rw [upd_ne (n a.rs)]; exact a.rs
  · rw [e3]
    exact Paired.mapM a.rr fun x _ y e => by rw [upd_ne (n e)]; exact e
theorem HandAt.took {C : Addr} {H : Hp} {g : HG} {i m : Nat} {plan : List Deed} {h : HandM} (a : HandAt C H g i m plan h) (tk : List Nat) :
    HandAt C (upd H g.tk (.lst (tk.map fun n : Nat => V.int (n : Int)))) g i m plan { h with took := tk } := by
  have t : Tu H (upd H g.tk (.lst (tk.map fun n : Nat => V.int (n : Int)))) := Tu.upd fun xs e => by
    rw [a.tk] at e
    cases e
  obtain ⟨dx, ov, o1, o2⟩ := a.ob
  obtain ⟨n1, n2, n3, n4, n5, n6⟩ := a.n1
  obtain ⟨ps, p1, p2⟩ := a.pl
  refine ⟨⟨dx, ov, by rw [upd_ne (ne_of o1 a.tk (by intro z; cases z))]; exact o1, o2.tu t⟩, ⟨ps, by rw [upd_ne n4]; exact p1, p2.tu t⟩, upd_same, ?_, ?_, ?_, a.n1, a.n2⟩
  · rw [upd_ne n1.symm]; exact a.rd
  · rw [upd_ne n2.symm]; exact a.rs
  · exact Paired.mapM a.rr fun x hx y e => by rw [upd_ne (fun z => a.n2.1 (by rw [← z]; exact hx))]; exact e
def spHEnd2 (C : Addr) : Sp := fun vs H Q _ => ∃ (g : HG) (dp : Addr) (i m now : Nat) (plan : List Deed) (h : HandM) (d : Deed) (o : Out), vs = [.ref g.hp, .ref dp, .int now] ∧ HandAt C H g i m plan h ∧ DeedAt H dp d ∧ h.out = some o ∧ h.took.length = m ∧
  (d = .take → o.mark = .non ∨ ∃ k l, o.mark = .gift k l ∧ k < m) ∧
  ∀ t H', EndAt H' (.ref t) (some (h.done i d now o).2) → HandAt C H' g i m plan (h.done i d now o).1 → Off g.list H H' → Q (.ref t) H'
/-- what a step leaves -/
def spHStep (CB C : Addr) : Sp := fun vs H Q _ => ∃ (g : HG) (bx bl : Addr) (i m now : Nat) (plan : List Deed) (h : HandM) (d : Deed) (boxes : List Int), vs = [.ref g.hp, .ref bx, .int now] ∧ HandAt C H g i m plan h ∧ plan[h.ended]? = some d ∧ HandPre m i d boxes h ∧ BxAt CB H bx bl boxes ∧
  bx ∉ g.list ∧ bl ∉ g.list ∧ ∀ z tv ev g' H', H' z = some (.tup [tv, ev]) → TouchAt H' tv (h.step m i d boxes now).touch → EndAt H' ev (h.step m i d boxes now).ended → HandAt C H' g' i m plan (h.step m i d boxes now).hand →
    BxAt CB H' bx bl (h.step m i d boxes now).boxes → Grow H g g' → Off (bl :: g.list) H H' → Q (.ref z) H'
end Sd
namespace Sd
open PySem L2
theorem HandAt.newrs {C : Addr} {H : Hp} {g : HG} {i m : Nat} {plan : List Deed} {h h' : HandM} {dx r : Addr} {fs : List (Str × V)} {ov : V} (a : HandAt C H g i m plan h) (hr : H r = none) (e1 : h'.took = h.took) (e2 : h'.reading = h.reading) (e3 : h'.readings = [])
    (ho : OutAt H ov h'.out) (hob : H g.hp = some (.ins C dx fs)) :
    HandAt C (upd (upd H r (.lst [])) g.hp (.ins C dx (hfs (.int i) (.ref g.pl) (.int m) (.int h'.ended) (.int h'.ones) (.ref g.tk) (.int h'.beg) ov (.ref g.rd) (.ref r) (.int h'.steps)))) ⟨g.hp, g.tk, g.rd, r, g.pl, []⟩ i m plan h' := by
  have s := Same.new (o := .lst []) hr
  have hob1 := s _ _ hob
  have c1 : upd H r (.lst []) r = some (.lst []) := upd_same
  have t : Tu H (upd (upd H r (.lst [])) g.hp (.ins C dx (hfs (.int i) (.ref g.pl) (.int m) (.int h'.ended) (.int h'.ones) (.ref g.tk) (.int h'.beg) ov (.ref g.rd) (.ref r) (.int h'.steps)))) := (Tu.same s).trans (Tu.upd fun xs e => by
    rw [hob1] at e
    cases e)
  have n : ∀ {x : Addr} {xs : List V}, H x = some (.lst xs) → x ≠ g.hp := fun e z => by rw [z, hob] at e; cases e
  have nr : ∀ {x : Addr} {o : HO}, H x = some o → x ≠ r := fun e => ne_of_none e hr
  have st : ∀ {x : Addr} {xs : List V}, H x = some (.lst xs) → upd (upd H r (.lst [])) g.hp (.ins C dx (hfs (.int i) (.ref g.pl) (.int m) (.int h'.ended) (.int h'.ones) (.ref g.tk) (.int h'.beg) ov (.ref g.rd) (.ref r) (.int h'.steps))) x = some (.lst xs) := fun e => by
    rw [upd_ne (n e)]
    exact s _ _ e
  obtain ⟨ps, p1, p2⟩ := a.pl
  obtain ⟨n1, n2, n3, n4, n5, n6⟩ := a.n1
  refine ⟨⟨dx, ov, upd_same, ho.tu t⟩, ⟨ps, st p1, p2.tu t⟩, by rw [e1]; exact st a.tk, by rw [e2]; exact st a.rd, ?_, by rw [e3]; exact .nil, ⟨n1, nr a.tk, nr a.rd, n4, n5, nr p1⟩, by simp⟩
  rw [upd_ne (nr hob).symm]
  exact c1
end Sd

/-! judging in the heap -/
namespace Sd
open PySem L2 PySem.W
def ansD : Ans → PyData
  | .non => .none
  | .int n => .int n
  | .view cs => .tuple (cs.map PyData.int)
theorem Ans.At.dp {K : PySem.W.Frag} {H : Hp} {v : V} {a : Ans} (h : a.At H v) : Dp K H v (ansD a) := by
  cases a with
  | non => cases (show v = .non from h); exact .non
  | int n => cases (show v = .int n from h); exact .int n
  | view cs =>
    obtain ⟨p, rfl, hp⟩ := h
    exact .tup (SqT.of hp) (dInts_all cs)
theorem ansD_shaped (a : Ans) : SeqAt.shaped (ansD a) = true := by
  cases a with
  | non => rfl
  | int n => rfl
  | view cs =>
    have h1 : PyData.canLay0 (.tuple (cs.map PyData.int)) = true := lay_ints cs
    have h2 : PyData.depth (.tuple (cs.map PyData.int)) = PyData.depthAll (cs.map PyData.int) + 1 := rfl
    rw [depth_ints] at h2
    show SeqAt.shaped (.tuple (cs.map PyData.int)) = true
    unfold SeqAt.shaped
    rw [h1, h2]
    rfl
theorem eqvAll_ints2 : ∀ a b : List Int, PyData.eqvAll (a.map PyData.int) (b.map PyData.int) = decide (a = b)
  | [], [] => rfl
  | [], _ :: _ => rfl
  | _ :: _, [] => rfl
  | x :: xs, y :: ys => by
    show ((x == y) && PyData.eqvAll (xs.map PyData.int) (ys.map PyData.int)) = _
    rw [eqvAll_ints2 xs ys]
    by_cases h : x = y
    · subst h
      rw [beq_self_eq_true, Bool.true_and]
      exact decide_eq_decide.mpr ⟨fun e => by rw [e], fun e => (List.cons.inj e).2⟩
    · rw [beq_eq_false_iff_ne.mpr h, Bool.false_and]
      exact (decide_eq_false fun e => h (List.cons.inj e).1).symm
theorem ansD_eqv (a b : Ans) : PyData.eqv (ansD a) (ansD b) = decide (a = b) := by
  cases a with
  | non => cases b <;> rfl
  | int n =>
    cases b with
    | int k =>
      show (n == k) = _
      by_cases h : n = k
      · subst h
        rw [beq_self_eq_true]
        exact (decide_eq_true rfl).symm
      · rw [beq_eq_false_iff_ne.mpr h]
        exact (decide_eq_false fun e => h (by injection e)).symm
    | _ => rfl
  | view cs =>
    cases b with
    | view ds =>
      show PyData.eqvAll _ _ = _
      rw [eqvAll_ints2]
      exact decide_eq_decide.mpr ⟨fun e => by rw [e], fun e => by injection e⟩
    | _ => rfl
/-- records handed in -/
structure RecsAt (H : Hp) (rl : Addr) (recs : List Rec) (m : Nat) : Prop where
  ls : ∃ vs, H rl = some (.lst vs) ∧ Paired (RecAt H) vs recs
  ok : ∀ r ∈ recs, RecOk m r
  len : recs.length ≤ 9000
theorem RecsAt.off {H H' : Hp} {rl : Addr} {recs : List Rec} {m : Nat} {F : List Addr} (a : RecsAt H rl recs m) (o : Off F H H') (n : rl ∉ F) (t : Tu H H') : RecsAt H' rl recs m := by
  obtain ⟨vs, h1, h2⟩ := a.ls
  exact ⟨⟨vs, o _ _ n h1, Paired.mapM h2 fun x _ y e => e.tu t⟩, a.ok, a.len⟩
def spKeepsM : Sp := fun vs H Q _ => ∃ (rl ol : Addr) (recs : List Rec) (order : List Int) (m : Nat), vs = [.ref rl, .ref ol, .int m] ∧ RecsAt H rl recs m ∧ H ol = some (.lst (order.map V.int)) ∧ 1 ≤ m ∧ m ≤ 100 ∧ ∀ H', Same H H' → Q (.bl (keepsM recs order m)) H'
theorem L5.At.noTup {H : Hp} {d a1 a2 a3 a4 : Addr} {s : L5} (h : s.At H d a1 a2 a3 a4) : ∀ x ∈ [d, a1, a2, a3, a4], ∀ xs, H x ≠ some (.tup xs) := by
  intro x hx xs e
  simp only [List.mem_cons, List.not_mem_nil, or_false] at hx
  rcases hx with rfl | rfl | rfl | rfl | rfl
  · rw [h.d] at e; cases e
  · rw [h.c1] at e; cases e
  · rw [h.c2] at e; cases e
  · rw [h.c3] at e; cases e
  · rw [h.c4] at e; cases e
theorem RecsAt.at_ {H : Hp} {rl : Addr} {recs : List Rec} {m : Nat} (a : RecsAt H rl recs m) {p : Nat} {r : Rec} (e : recs[p]? = some r) : ∃ vs rp dp av, H rl = some (.lst vs) ∧ atI vs (p : Int) = some (.ref rp) ∧ H rp = some (.tup [.int r.hand, .ref dp, .int r.beg, .int r.fin, av]) ∧ DeedAt H dp r.deed ∧ r.ans.At H av := by
  obtain ⟨vs, h1, h2⟩ := a.ls
  obtain ⟨v, hv, rp, dp, av, rfl, h3, h4, h5⟩ := Paired.get h2 e
  exact ⟨vs, rp, dp, av, h1, atI_nat hv, h3, h4, h5⟩
end Sd
namespace Sd
open PySem L2
def spHistory (K : PySem.W.Frag) : Sp := fun vs H Q _ => ∃ (d a wl : Addr) (ns : List Int) (ws : List Str) (m most : Nat), vs = [.ref d, .int m, .ref wl, .int most] ∧ Dice H d a ∧ SqL K H a (ns.map V.int) ∧
  H wl = some (.lst (ws.map V.str)) ∧ wl ≠ d ∧ (∀ w ∈ ws, w ∈ words10) ∧ 0 < ws.length ∧ ws.length ≤ 100 ∧ 1 ≤ m ∧ m ≤ 100 ∧ most ≤ 1000 ∧
  ∀ fl recs H', RecsAt H' fl recs m → recs.length ≤ most → H fl = none → Dice H' d a → SqL K H' a (ns.map V.int) → But d H H' → Q (.ref fl) H'
theorem RecsAt.tracked {H : Hp} {rl : Addr} {recs : List Rec} {m : Nat} (a : RecsAt H rl recs m) : ∃ vs, H rl = some (.lst vs) := by
  obtain ⟨vs, h, _⟩ := a.ls
  exact ⟨vs, h⟩
theorem Dice.tu {H H' : Hp} {d a : Addr} (h : Dice H d a) (b : But d H H') : Tu H H' := fun x xs e => b _ _ (fun z => by
  obtain ⟨_, _, _, hd⟩ := h
  rw [z, hd] at e
  cases e) e
theorem Off.but' {x : Addr} {H H' : Hp} (h : But x H H') : Off [x] H H' := fun c o n e => h c o (fun z => n (by rw [z]; exact List.mem_singleton.mpr rfl)) e
theorem eqBut {d : Addr} {H H' : Hp} (o : ∀ b, b ≠ d → H' b = H b) : But d H H' := fun c u n e => by rw [o c n]; exact e
end Sd

/-! records as data; an order told otherwise -/
namespace Sd
open PySem L2
def Deed.data : Deed → List PyData
  | set n => [.str "set", .int n] | add n => [.str "add", .int n] | rais n => [.str "raise", .int n] | give n => [.str "give", .int n]
  | one => [.str "one"] | count => [.str "count"] | look => [.str "look"] | sum => [.str "sum"] | top => [.str "top"] | take => [.str "take"]
theorem Deed.dpAll {K : PySem.W.Frag} {H : Hp} : ∀ d : Deed, DpAll K H d.vals d.data
  | .set _ | .add _ | .rais _ | .give _ => .cons (.str _) (.cons (.int _) .nil)
  | .one | .count | .look | .sum | .top | .take => .cons (.str _) .nil
theorem Deed.lay : ∀ d : Deed, PyData.canLayAll0 d.data = true := by
  intro d
  cases d <;> (simp only [Deed.data, PyData.canLayAll0, PyData.canLay0]; decide +kernel)
theorem Deed.depth : ∀ d : Deed, PyData.depthAll d.data = 0
  | .set _ | .add _ | .rais _ | .give _ | .one | .count | .look | .sum | .top | .take => rfl
def recD (r : Rec) : PyData := .tuple [.int r.hand, .tuple r.deed.data, .int r.beg, .int r.fin, ansD r.ans]
theorem RecAt.dp {K : PySem.W.Frag} {H : Hp} {v : V} {r : Rec} (h : RecAt H v r) : Dp K H v (recD r) := by
  obtain ⟨p, dp, av, rfl, hp, h1, h2⟩ := h
  exact .tup (SqT.of hp) (.cons (.int _) (.cons (.tup (SqT.of h1) r.deed.dpAll) (.cons (.int _) (.cons (.int _) (.cons h2.dp .nil)))))
theorem ansD_lay (a : Ans) : PyData.canLay0 (ansD a) = true := by
  cases a with
  | non => rfl
  | int n => rfl
  | view cs => exact lay_ints cs
theorem ansD_depth (a : Ans) : PyData.depth (ansD a) ≤ 1 := by
  cases a with
  | non => exact Nat.zero_le _
  | int n => exact Nat.zero_le _
  | view cs =>
    have h2 : PyData.depth (.tuple (cs.map PyData.int)) = PyData.depthAll (cs.map PyData.int) + 1 := rfl
    rw [depth_ints] at h2
    exact Nat.le_of_eq h2
theorem recD_lay (r : Rec) : PyData.canLay0 (recD r) = true := by
  show (true && (PyData.canLayAll0 r.deed.data && (true && (true && (PyData.canLay0 (ansD r.ans) && true))))) = true
  rw [Deed.lay, ansD_lay]
  rfl
theorem recD_depth (r : Rec) : PyData.depth (recD r) ≤ 2 := by
  have h : PyData.depth (recD r) = max 0 (max (PyData.depthAll r.deed.data + 1) (max 0 (max 0 (max (PyData.depth (ansD r.ans)) 0)))) + 1 := rfl
  rw [Deed.depth] at h
  have := ansD_depth r.ans
  omega
def recsD (recs : List Rec) : PyData := .list (recs.map recD)
theorem lay_recs : ∀ recs : List Rec, PyData.canLayAll0 (recs.map recD) = true
  | [] => rfl
  | r :: rs => by
    show (PyData.canLay0 (recD r) && PyData.canLayAll0 (rs.map recD)) = true
    rw [recD_lay, lay_recs rs]
    rfl
theorem depth_recs : ∀ recs : List Rec, PyData.depthAll (recs.map recD) ≤ 2
  | [] => Nat.zero_le _
  | r :: rs => by
    have h : PyData.depthAll ((r :: rs).map recD) = max (PyData.depth (recD r)) (PyData.depthAll (rs.map recD)) := rfl
    have := recD_depth r
    have := depth_recs rs
    omega
theorem dp_recs {K : PySem.W.Frag} {H : Hp} : ∀ {vs : List V} {recs : List Rec}, Paired (RecAt H) vs recs → DpAll K H vs (recs.map recD)
  | _, _, .nil => .nil
  | _, _, .cons h hs => .cons h.dp (dp_recs hs)
theorem recsD_shaped (recs : List Rec) : SeqAt.shaped (recsD recs) = true := by
  have h1 : PyData.canLay0 (recsD recs) = true := lay_recs recs
  have h2 : PyData.depth (recsD recs) = PyData.depthAll (recs.map recD) + 1 := rfl
  have := depth_recs recs
  unfold SeqAt.shaped
  rw [h1, Bool.true_and]
  exact decide_eq_true (by omega)
theorem recsD_nil (recs : List Rec) : PyData.eqv (recsD recs) (.list []) = decide (recs = []) := by
  cases recs with
  | nil => rfl
  | cons r rs => rfl
theorem dInts_nil (ns : List Int) : PyData.eqv (dInts ns) (.list []) = decide (ns = []) := by
  cases ns with
  | nil => rfl
  | cons r rs => rfl
def handD (recs : List Rec) (order : List Int) : PyData := .list [recsD recs, dInts order]
theorem handD_lay (recs : List Rec) (order : List Int) : PyData.canLay0 (handD recs order) = true := by
  show (PyData.canLayAll0 (recs.map recD) && (PyData.canLayAll0 (order.map PyData.int) && true)) = true
  rw [lay_recs, lay_ints]
  rfl
theorem handD_shaped (recs : List Rec) (order : List Int) : SeqAt.shaped (handD recs order) = true := by
  have h2 : PyData.depth (handD recs order) = max (PyData.depthAll (recs.map recD) + 1) (max (PyData.depthAll (order.map PyData.int) + 1) 0) + 1 := rfl
  have := depth_recs recs
  rw [depth_ints] at h2
  unfold SeqAt.shaped
  rw [handD_lay, Bool.true_and]
  exact decide_eq_true (by omega)
def spSpoiled (K : PySem.W.Frag) : Sp := fun vs H Q _ => ∃ (d a ol : Addr) (ns order : List Int) (H0 : Hp), vs = [.ref d, .ref ol] ∧ Dice H d a ∧ SqL K H a (ns.map V.int) ∧ SqL K H0 a (ns.map V.int) ∧ H0 ol = none ∧
  H ol = some (.lst (order.map V.int)) ∧ ol ≠ d ∧ order.length ≤ 100 ∧
  ∀ (q : Addr) (order' : List Int) H', H' q = some (.lst (order'.map V.int)) → Off [d, ol] H H' → Tu H H' → Q (.ref q) H'
theorem Tu.but {H H' : Hp} {d a : Addr} (h : Dice H d a) (b : But d H H') : Tu H H' := h.tu b
theorem ints_set {order : List Int} {j : Nat} {x : Int} : (order.map V.int).set j (.int x) = (order.set j x).map V.int := (List.map_set ..).symm
theorem Paired.setAt {A B : Type} {R : A → B → Prop} : ∀ {xs : List A} {ys : List B} (j : Nat) {x : A} {y : B}, Paired R xs ys → R x y → Paired R (xs.set j x) (ys.set j y)
  | _, _, _, _, _, .nil, _ => .nil
  | _, _, 0, _, _, .cons _ hs, h => .cons h hs
  | _, _, j + 1, _, _, .cons h1 hs, h => .cons h1 (Paired.setAt j hs h)
theorem RecsAt.set {H : Hp} {fl : Addr} {recs : List Rec} {m : Nat} {j : Nat} {r : Rec} {x : V} {vs : List V} (R : RecsAt H fl recs m) (hv : H fl = some (.lst vs)) (hr : RecAt H x r) (ok : RecOk m r) :
    RecsAt (upd H fl (.lst (vs.set j x))) fl (recs.set j r) m := by
  obtain ⟨vs', h1, h2⟩ := R.ls
  rw [hv] at h1
  cases h1
  have tu : Tu H (upd H fl (.lst (vs.set j x))) := Tu.upd fun xs e => by rw [hv] at e; cases e
  refine ⟨⟨_, upd_same, Paired.setAt j (Paired.mapM h2 fun y _ z e => e.tu tu) (hr.tu tu)⟩, fun y hy => ?_, by rw [List.length_set]; exact R.len⟩
  rcases List.mem_or_eq_of_mem_set hy with hy | rfl
  · exact R.ok y hy
  · exact ok
theorem flat_one {x : V} : ∀ m : Nat, (List.replicate m [x]).flatten = List.replicate m x
  | 0 => rfl
  | m + 1 => by rw [List.replicate_succ, List.replicate_succ, List.flatten_cons, flat_one m]; rfl
theorem rep_r {K : PySem.W.Frag} {H : Hp} {t : Addr} {x : V} {m : Nat} {Q : VK} (ht : H t = some (.tup [x])) (h1 : 1 ≤ m) (h2 : m ≤ 1000) (q : ∀ u H', Same H H' → H' u = some (.tup (List.replicate m x)) → Q (.ref u) H') : rRepT1 K (.ref t) (.int m) H Q := by
  refine ⟨t, m, [x], rfl, rfl, SqT.of ht, by simp, by omega, by omega, (by show 1 ≤ 1000; decide), fun e => q t H (Same.refl H) ?_, fun _ p hp => q p _ (Same.new hp) ?_⟩
  · have e : m = 1 := by omega
    rw [e]
    exact ht
  · rw [upd_same, Int.toNat_natCast, flat_one]
    
end Sd

/-! list(reversed(a list)): a rule of its own -/
namespace Sd
open PySem PySem.Spec PyProof.Rows RT
section
variable {prog : Program} {w : World} {A : Around} {s : Shared} {R : Result → Shared → Prop}
theorem list_init_rev {it l : Addr} {items : Array Value} {S : Addr} (hh : A.handled = none) (hit : s.heap.IsRevIter it l ((items.size : Int) - 1)) (hl : s.heap.IsList l items) (hne : l ≠ it) (hn : items.size ≤ sizeLine)
    (hSi : S ≠ it) (hSl : S ≠ l) (hS : s.heap.get? S = some { cls := .type "list", data := .seq #[] })
    (hR : ∀ (s' : Shared) (acc : Array Value) (c : Nat), (∀ b o, b ≠ it → b ≠ S → s.heap.get? b = some o → s'.heap.get? b = some o) → (∃ h' tk, s' = { s with heap := h', toks := tk }) → s'.heap.get? S = some { cls := .type "list", dict := none, data := .seq acc c, slots := #[] } → ItemsOf (fun i v => items[items.size - 1 - i]? = some v) acc items.size → R (.ok (.ret .none)) s') :
    wpAny (model prog w) A.in1 (Builtin.«list.__init__» ⟨[.ref S, .ref it], []⟩)
      (fun fin s' => match fin with | .done f => R (.ok f) s' | .again c' => c'.quiet = true ∧ codeAny (model prog w) A c' R s') (fun e s' => R (.error e) s') s := by
  show wpAny _ A.in1 (do let old ← Builtin.List.listItems (.ref S); Builtin.List.listUpdate (.ref S) (fun _ => #[]); letGo old.toList.reverse; Builtin.List.listExtendWith (.ref S) (.ref it) .none) _ _ s
  refine wpAny_bind ?_
  unfold Builtin.List.listItems
  refine wpAny_bind (wpAny_seqItems hS rfl (wpAny_pure ?_))
  show wpAny _ A.in1 (updateSeq S (fun _ => #[]) >>= fun _ => letGo (#[] : Array Value).toList.reverse >>= fun _ => Builtin.List.listExtendWith (.ref S) (.ref it) .none) _ _ s
  refine wpAny_bind (wpAny_updateSeq hS rfl ?_)
  have hS₂ := Heap.get?_update_self (Obj.mapSeq (fun _ => (#[] : Array Value))) hS rfl
  have oth : ∀ b o, b ≠ S → s.heap.get? b = some o → (s.heap.update S (Obj.mapSeq (fun _ => (#[] : Array Value)))).get? b = some o :=
    fun b o hb e => (Heap.get?_update_other _ _ (Ne.symm hb)).trans e
  refine wpAny_bind (wpAny_letGo ?_)
  have hit1 : (s.heap.update S (Obj.mapSeq (fun _ => (#[] : Array Value)))).IsRevIter it l ((items.size : Int) - 1) := hit.at fun o e => oth _ o (Ne.symm hSi) e
  have hl1 : (s.heap.update S (Obj.mapSeq (fun _ => (#[] : Array Value)))).IsList l items := by
    obtain ⟨o, ho, r⟩ := hl
    exact ⟨o, oth _ o (Ne.symm hSl) ho, r⟩
  generalize s.heap.update S (Obj.mapSeq (fun _ => (#[] : Array Value))) = h1 at hS₂ oth hit1 hl1 ⊢
  have W := (Walks.listRev (prog := prog) (w := w) (A := A.in1) hh it l hne items).toS
  have hSf : S ∉ [it, l] := by simp only [List.mem_cons, List.not_mem_nil, or_false, not_or]; exact ⟨hSi, hSl⟩
  have hT : ({ s with heap := h1 } : Shared).TypeIs (.ref it) "list_reverseiterator" := Heap.IsRevIter.typeIs (s := { s with heap := h1 }) hit1
  have h1' : Builtin.List.listSameRef (.ref S) (.ref it) = false := by simp [Builtin.List.listSameRef, hSi]
  unfold Builtin.List.listExtendWith
  refine wpAny_bind (wpAny_typeOf hT ?_)
  rw [if_neg (by rw [h1']; decide)]
  refine wpAny_bind (wpAny_pyIter_revIter (s := { s with heap := h1 }) hit1 ?_)
  refine wpAny_bind (wpAny_holding ?_)
  unfold Builtin.List.listLengthHint
  refine wpAny_bind (wpAny_specialOf hT nolen_lri ?_)
  show wpAny _ A.in1 (specialOf (Value.ref it) (Str.ofString "__length_hint__") >>= _) _ _ _
  refine wpAny_bind (wpAny_specialOf hT hint_lri ?_)
  generalize hid : ("list_reverseiterator.__length_hint__" : String) = id0
  wp_delta
  rw [show splitId id0 = some ("list_reverseiterator", "__length_hint__") from by subst hid; decide +kernel]
  subst hid
  refine wpAny_bind (wpAny_isInstance (b := true) hT (by rw [isSubtype_type]; kernel_rfl) ?_)
  refine wpAny_pure ?_
  rw [if_neg (by decide)]
  have e0 : ((items.size : Nat) : Int) - 1 - ((0 : Nat) : Int) = (items.size : Int) - 1 := by omega
  refine wpAny_pure ⟨plainId_quiet F.plain_extend_loop _, codeAny_extend_loopS W hn _ hSf _ items.size 0 _ _ _ rfl (Nat.zero_le _) ⟨Nat.zero_le _, by rw [e0]; exact hit1, hl1⟩ hS₂ (ItemsOf.nil _) fun s' acc' c' hm hS' hacc => ?_⟩
  refine hR s' acc' c' (fun b o hb hb2 e => hm.heap b o (fun hmem => ?_) (oth b o hb2 e)) ⟨s'.heap, s'.toks, ?_⟩ hS' hacc
  · rcases List.mem_cons.mp hmem with e' | hmem
    · exact hb2 e'
    · exact hb (List.mem_singleton.mp hmem)
  · rw [Moved.eq_with hm]
end
section
variable {prog : Program} {w : World} {A : Around} {E : Value → Shared → Prop} {s : Shared}
theorem call_list_rev {it l : Addr} {items : Array Value} {Q : Value → Shared → Prop} (hh : A.handled = none) (hit : s.heap.IsRevIter it l ((items.size : Int) - 1)) (hl : s.heap.IsList l items) (hne : l ≠ it) (hn : items.size ≤ sizeLine)
    (hQ : ∀ (s' : Shared) (acc : Array Value) (c : Nat), (∀ b o, b ≠ it → s.heap.get? b = some o → s'.heap.get? b = some o) → (∃ h' tk, s' = { s with heap := h', toks := tk }) → s'.heap.get? s.heap.objs.size = some { cls := .type "list", dict := none, data := .seq acc c, slots := #[] } → ItemsOf (fun i v => items[items.size - 1 - i]? = some v) acc items.size → Q (.ref s.heap.objs.size) s') :
    wpAny (model prog w) A (call (.type "list") [.ref it]) Q E s := by
  obtain ⟨oi, hoi, _⟩ := id hit
  obtain ⟨ol, hol, _⟩ := id hl
  have hSi : s.heap.objs.size ≠ it := Nat.ne_of_gt (Heap.lt_size hoi)
  have hSl : s.heap.objs.size ≠ l := Nat.ne_of_gt (Heap.lt_size hol)
  refine callType_codes (Q₁ := fun obj s₁ => obj = .ref s.heap.objs.size ∧ s₁ = { s with heap := s.heap.push { cls := .type "list", data := .seq #[] } }) F.called_list (F.typeCall_list_1 _) F.entry_list_init
    (code_list_new _ ⟨rfl, rfl⟩) fun obj s₁ h₁ => ?_
  obtain ⟨rfl, rfl⟩ := h₁
  have hS : (s.heap.push { cls := .type "list", data := .seq #[] }).get? s.heap.objs.size = some { cls := .type "list", data := .seq #[] } := Heap.get?_push_size _ rfl
  refine ⟨⟨_, hS, rfl⟩, F.args_list_init_2 _ _, list_init_rev (s := { s with heap := s.heap.push { cls := .type "list", data := .seq #[] } }) hh (hit.at fun o e => Heap.get?_push_of_some _ e) (hl.push _) hne hn hSi hSl hS fun s' acc c hk he hS' hacc => ?_⟩
  refine ⟨rfl, hQ s' acc c (fun b o hb e => hk b o hb (fun z => ?_) (Heap.get?_push_of_some _ e)) ?_ hS' hacc⟩
  · exact absurd (Heap.lt_size e) (by rw [z]; exact Nat.lt_irrefl _)
  · obtain ⟨h', tk, e⟩ := he
    exact ⟨h', tk, e⟩
end
end Sd
namespace Sd
open PySem L2 RT PySem.Spec PyProof.Rows
def tListRev (K : PySem.W.Frag) (te : TE) : TE := fun σ H Q => te σ H fun v H1 => ∃ (a : Addr) (xs : List V), v = .ref a ∧ SqL K H1 a xs ∧ ∀ q, H1 q = none → Q (.ref q) (upd H1 q (.lst xs.reverse))
section
variable {X : Cx}
theorem pe_listRev {e : Expr} {te : TE} {p p2 pos pos2 : Pos} (hc : X.calm = true) (hg : Gl X "list") (hm : X.mg "list" = none) (hg2 : Gl X "reversed") (hm2 : X.mg "reversed" = none) (he : PE X e te)
    (hs : starEach [e] X.env = (false, eval e X.env) :: starEach [] X.env := by rfl)
    (hs2 : starEach [.Call (.Name "reversed" p2) [e] [] pos2] X.env = (false, eval (.Call (.Name "reversed" p2) [e] [] pos2) X.env) :: starEach [] X.env := by rfl) :
    PE X (.Call (.Name "list" p) [.Call (.Name "reversed" p2) [e] [] pos2] [] pos) (tListRev X.K te) := by
  refine ⟨fun pins s σ H Q I h => ?_⟩
  refine Call_ (ld_blt I hg hm boot_list (PyProof.Rows.callWith_type1 (args_cons (Call_ (ld_blt I hg2 hm2 PyProof.Rows.boot_reversed (PyProof.Rows.callWith_type1 (args_cons (thn (he.run pins s σ H _ I h) fun u s1 ⟨v, H1, I1, r1, q1⟩ => args_nil ?_) hs) hs rfl))) hs2) hs2 rfl))
  obtain ⟨a, xs, ev, hq, q⟩ := q1
  subst ev
  obtain rfl : u = Value.ref a := r1
  obtain ⟨its, rv, p', hz⟩ := I1.list hq
  refine call_reversed_list p'.isList (args_nil ?_)
  have k0 : ∀ b o, s1.heap.get? b = some o → (s1.heap.push (revObj a ((its.toArray.size : Int) - 1))).get? b = some o := fun b o e => Heap.get?_push_of_some _ e
  have I2 : Inv X pins σ H1 { s1 with heap := s1.heap.push (revObj a ((its.toArray.size : Int) - 1)) } := I1.kept (t' := s1.toks) k0
  obtain ⟨f0, f1, f2, f3, f4, f5⟩ := I1.fpOk (H' := H1) (b := s1.heap.objs.size) (Nat.le_refl _) (I1.hok.fresh (Nat.le_refl _))
  have hl := p'.isList
  obtain ⟨ol, hol, _⟩ := id hl
  have hne : a ≠ s1.heap.objs.size := Nat.ne_of_lt (Heap.lt_size hol)
  have hn : its.toArray.size ≤ sizeLine := by rw [List.size_toArray, ← rv.length]; exact hz
  refine call_list_rev (s := { s1 with heap := s1.heap.push (revObj a ((its.toArray.size : Int) - 1)) }) (I1.ok.hd hc) ⟨_, Heap.get?_push_size _ rfl, rfl, rfl⟩ (hl.push _) hne hn fun s' acc c hk he hS' hi => ?_
  obtain ⟨h', tk, rfl⟩ := he
  have hz' : xs.reverse.length ≤ sizeLine := by rw [List.length_reverse]; exact hz
  refine ⟨.ref (s1.heap.push (revObj a ((its.toArray.size : Int) - 1))).objs.size, upd H1 (s1.heap.push (revObj a ((its.toArray.size : Int) - 1))).objs.size (.lst xs.reverse),
    I2.turnedNew (t' := tk) (ch := [s1.heap.objs.size]) (fun b o hb e => hk b o (fun z => hb (by rw [z]; exact List.mem_singleton.mpr rfl)) e) (fun b hb => ?_) (Nat.le_refl _) (show ObjOk X.prog X.w _ _ _ (.lst xs.reverse) from ⟨hz', acc.toList, c, vals_rev rv hi, ?_⟩), rfl, q _ (I2.hok.fresh (Nat.le_refl _))⟩
  · rw [List.mem_singleton.mp hb]
    exact I1.fpOk (Nat.le_refl _) (I1.hok.fresh (Nat.le_refl _))
  · rw [Array.toArray_toList]
    exact hS'
end
end Sd

namespace K23
open PySem L2
def top (i : Nat) : Stmt := PySem.Challenge.pw_stillhands_k23_keeps.main.body.getD i (.Pass ⟨0, 0, 0, 0⟩)
abbrev s_first_state : Stmt := top 1
abbrev s_answer_in : Stmt := top 2
abbrev s_state_behind : Stmt := top 3
abbrev s_keeps : Stmt := top 5
abbrev s_l_cell : Stmt := top 7
abbrev s_l_dice : Stmt := top 8
abbrev s_l_off : Stmt := top 9
abbrev s_l_plain : Stmt := top 10
abbrev s_l_at_once : Stmt := top 11
abbrev s_l_deed : Stmt := top 12
abbrev s_l_plans : Stmt := top 13
abbrev s_l_keeps : Stmt := top 14
abbrev s_l_history : Stmt := top 15
abbrev s_l_spoiled_order : Stmt := top 16
abbrev s_l_words : Stmt := top 17
abbrev s_law : Stmt := top 18
structure Dr (K : PySem.W.Frag) (mg : Str → Option Value) : Prop where
  abs : mg "abs" = none
  len : mg "len" = none
  max : mg "max" = none
  int : mg "int" = none
structure Txt (K : PySem.W.Frag) (mg : Str → Option Value) : Prop extends Dr K mg where
  isinstance : mg "isinstance" = none
  bool : mg "bool" = none
  tuple : mg "tuple" = none
  list : mg "list" = none
  sum : mg "sum" = none
  range : mg "range" = none
  sorted : mg "sorted" = none
  reversed : mg "reversed" = none
def spLaw (K : PySem.W.Frag) : Sp := fun vs H Q _ => ∃ (a : Addr) (ns : List Int), vs = [.ref a] ∧ SqL K H a (ns.map V.int) ∧ ns.length ≤ 63 ∧ ∀ H', Q (.bl true) H'
/-! a cell of the script -/
section
variable {P : Program} {w : World} {K : PySem.W.Frag} {mg : Str → Option Value} {base : Heap}
abbrev N_l_cell : List Str := ["_law_script", "_law_k"]
theorem sc_l_cell : FnScope N_l_cell ["_law_script", "_law_k"] (defScope s_l_cell) := ⟨rfl, rfl, rfl, by decide +kernel, rfl, by decide +kernel, by decide +kernel⟩
theorem ok_l_cell {f : Addr} {fd : FuncData} (F : Fun K "_law_cell" "_law_cell" s_l_cell f fd) (T : Dr K mg) : FnOk P w K mg base CX0 1 f fd ["_law_script", "_law_k"] (Sd.spCell K) := by
  refine F.ok sc_l_cell (fun vs H Q E h => ?_) (fun cdv A outer s H vs Q E hr h => ?_)
  · obtain ⟨a, ns, k, rfl, _⟩ := h
    rfl
  · obtain ⟨a, ns, k, rfl, h0, hS, q⟩ := h
    refine ⟨_, (pss_cons (ps_if (pt_cmpR op_lt (pv 1) (pe_callB call_len_seq (by rfl) T.len (by decide +kernel) (pa_cons (pv 0) pa_nil)) (nomark _))
      (pss_one (ps_ret (pe_ix ix_list (pv 0) (pv 1) (fun _ _ => rfl))))
      pss_nil)
      (pss_one (ps_ret pe_int))), ?_⟩
    obtain ⟨m, rfl⟩ := Int.eq_ofNat_of_zero_le h0
    refine ⟨_, rfl, _, rfl, a, _, rfl, .inl hS, _, _, rfl, rfl, _, rfl, ?_⟩
    refine ite2 (fun c => ?_) (fun c => ?_)
    · have hm : m < ns.length := by
        have c' := of_decide_eq_true c
        rw [List.length_map] at c'
        omega
      exact ⟨_, rfl, _, rfl, a, _, _, _, rfl, rfl, hS, atI_nat (Sd.ints_get (List.getElem?_eq_getElem hm)), q _⟩
    · exact q 0
end
/-! the defs of the draws -/
section
variable {P : Program} {w : World} {K : PySem.W.Frag} {mg : Str → Option Value} {base : Heap}
abbrev N_l_dice : List Str := ["_law_script", "_law_k", "_law_cell_here"]
theorem sc_l_dice : FnScope N_l_dice ["_law_script", "_law_k"] (defScope s_l_dice) := ⟨rfl, rfl, rfl, by decide +kernel, rfl, by decide +kernel, by decide +kernel⟩
theorem ok_l_dice {f : Addr} {fd : FuncData} (F : Fun K "_law_dice" "_law_dice" s_l_dice f fd) (T : Dr K mg) (C_l_cell : Sd.Cal P w K mg base CX0 1 "_law_cell" ["_law_script", "_law_k"] (Sd.spCell K)) :
    FnOk P w K mg base CX0 2 f fd ["_law_script", "_law_k"] (Sd.spDice K) := by
  refine F.ok sc_l_dice (fun vs H Q E h => ?_) (fun cdv A outer s H vs Q E hr h => ?_)
  · obtain ⟨a, ns, k, rfl, _⟩ := h
    rfl
  · obtain ⟨a, ns, k, rfl, h0, hS, q⟩ := h
    refine ⟨_, (pss_cons (ps_set (i := 2) sc_l_dice.nd rfl (Or.inl rfl) (pe_callB call_abs (by rfl) T.abs (by decide +kernel) (pa_cons (Sd.pe_fn C_l_cell (hr.mono (by decide)) pass0 (pa_cons (pv 0) (pa_cons (pv 1) pa_nil))) pa_nil)))
      (pss_one (ps_ret (pe_lst (pa_cons (pe_op op_mod (pv 2) pe_int) (pa_cons (pv 0) (pa_cons (pe_op op_add (pv 1) pe_int) (pa_cons (pe_op op_mul (pe_callTy call_int1 (by rfl) T.int (by decide +kernel) (pa_cons (pe_cmpR op_ge (pv 2) (pe_op op_pow pe_int pe_int) (nomark _)) pa_nil)) (pv 2)) pa_nil)))))))), ?_⟩
    refine ⟨_, rfl, _, rfl, a, ns, k, rfl, h0, hS, fun v => ⟨v, rfl, ?_⟩⟩
    refine ⟨_, rfl, _, _, rfl, rfl, (by show (0 : Int) < 2147483647; decide), _, rfl, _, rfl, _, _, rfl, rfl, ?_⟩
    refine ⟨_, rfl, _, _, rfl, rfl, ⟨by decide, by decide, by decide⟩, _, _, rfl, rfl, .inr ⟨_, rfl, ?_⟩⟩
    refine ⟨_, rfl, _, _, rfl, rfl, .inl ?_, (by show 4 ≤ sizeLine; decide), fun p hp => ?_⟩
    · exact Sd.b01 _
    · exact q p _ hp (Sd.Same.new hp) Sd.But.upd ⟨_, _, _, upd_same⟩ fun b n => upd_ne n
abbrev N_l_off : List Str := ["_law_d", "_law_most", "_law_found", "_law_more"]
theorem sc_l_off : FnScope N_l_off ["_law_d", "_law_most"] (defScope s_l_off) := ⟨rfl, rfl, rfl, by decide +kernel, rfl, by decide +kernel, by decide +kernel⟩
theorem ok_l_off {f : Addr} {fd : FuncData} (F : Fun K "_law_off" "_law_off" s_l_off f fd) (T : Dr K mg) (C_l_cell : Sd.Cal P w K mg base CX0 1 "_law_cell" ["_law_script", "_law_k"] (Sd.spCell K)) :
    FnOk P w K mg base CX0 2 f fd ["_law_d", "_law_most"] (Sd.spOff K) := by
  refine F.ok sc_l_off (fun vs H Q E h => ?_) (fun cdv A outer s H vs Q E hr h => ?_)
  · obtain ⟨d, a, ns, m, rfl, _⟩ := h
    rfl
  · obtain ⟨d, a, ns, m, rfl, ⟨n, k, g, hd⟩, hS, hm0, hm1, q⟩ := h
    refine ⟨_, (pss_cons (ps_if (pt_cmpR op_gt (pe_ix ix_list (pv 0) pe_int (fun _ _ => rfl)) pe_int (nomark _))
      (pss_cons (ps_set (i := 2) sc_l_off.nd rfl (Or.inl rfl) (pe_op op_mod (pe_ix ix_list (pv 0) pe_int (fun _ _ => rfl)) (pv 1)))
      (pss_cons (ps_asg (pe_op op_fdiv (pe_ix ix_list (pv 0) pe_int (fun _ _ => rfl)) (pv 1)) (pg_sub (pv 0) pe_int set_list))
      (pss_one (ps_ret (pv 2)))))
      pss_nil)
      (pss_cons (ps_set (i := 3) sc_l_off.nd rfl (Or.inl rfl) (pe_callB call_abs (by rfl) T.abs (by decide +kernel) (pa_cons (Sd.pe_fn C_l_cell (hr.mono (by decide)) pass0 (pa_cons (pe_ix ix_list (pv 0) pe_int (fun _ _ => rfl)) (pa_cons (pe_op op_mod (pe_ix ix_list (pv 0) pe_int (fun _ _ => rfl)) (pe_callB (call_max2 rfl) (by rfl) T.max (by decide +kernel) (pa_cons pe_int (pa_cons (pe_callB call_len_seq (by rfl) T.len (by decide +kernel) (pa_cons (pe_ix ix_list (pv 0) pe_int (fun _ _ => rfl)) pa_nil)) pa_nil)))) pa_nil))) pa_nil)))
      (pss_cons (ps_asg (pe_op op_add (pe_ix ix_list (pv 0) pe_int (fun _ _ => rfl)) pe_int) (pg_sub (pv 0) pe_int set_list))
      (pss_cons (ps_asg (pe_op op_mod (pe_op op_add (pe_op op_add (pe_op op_mul (pe_ix ix_list (pv 0) pe_int (fun _ _ => rfl)) pe_int) pe_int) (pv 3)) pe_int) (pg_sub (pv 0) pe_int set_list))
      (pss_one (ps_ret (pe_op op_mod (pe_op op_fdiv (pe_ix ix_list (pv 0) pe_int (fun _ _ => rfl)) pe_int) (pv 1)))))))), ?_⟩
    have at0 : ∀ x y z t : V, atI [x, y, z, t] (0 : Int) = some x := fun _ _ _ _ => atI_nat (j := 0) rfl
    have at1 : ∀ x y z t : V, atI [x, y, z, t] (1 : Int) = some y := fun _ _ _ _ => atI_nat (j := 1) rfl
    have at2 : ∀ x y z t : V, atI [x, y, z, t] (2 : Int) = some z := fun _ _ _ _ => atI_nat (j := 2) rfl
    have at3 : ∀ x y z t : V, atI [x, y, z, t] (3 : Int) = some t := fun _ _ _ _ => atI_nat (j := 3) rfl
    refine ⟨_, rfl, d, _, _, _, rfl, rfl, SqL.of hd, at3 _ _ _ _, _, _, rfl, rfl, _, rfl, ?_⟩
    refine ite2 (fun c => ?_) (fun c => ?_)
    · refine ⟨_, rfl, d, _, _, _, rfl, rfl, SqL.of hd, at3 _ _ _ _, _, rfl, _, _, rfl, rfl, hm0, ?_⟩
      refine ⟨_, rfl, d, _, _, _, rfl, rfl, SqL.of hd, at3 _ _ _ _, _, rfl, _, _, rfl, rfl, ⟨hm0, hm1⟩, _, rfl, d, _, _, 3, rfl, rfl, hd, rfl, ?_⟩
      exact ⟨_, rfl, q _ _ (Int.emod_nonneg _ (by omega)) (Int.emod_lt_of_pos _ hm0) ⟨n, k, _, upd_same⟩ fun b e => upd_ne e⟩
    · refine ⟨_, rfl, d, _, _, _, rfl, rfl, SqL.of hd, at1 _ _ _ _, _, rfl, d, _, _, _, rfl, rfl, SqL.of hd, at2 _ _ _ _, ?_⟩
      refine ⟨_, rfl, d, _, _, _, rfl, rfl, SqL.of hd, at1 _ _ _ _, a, _, rfl, .inl hS, _, _, rfl, ?_⟩
      have hM : (0 : Int) < (if (((ns.map V.int).length : Nat) : Int) > 1 then (((ns.map V.int).length : Nat) : Int) else 1) := by
        split <;> omega
      refine ⟨_, _, rfl, rfl, hM, ?_⟩
      refine ⟨a, ns, _, rfl, Int.emod_nonneg _ (by omega), hS, fun v => ⟨v, rfl, ?_⟩⟩
      refine ⟨_, rfl, d, _, _, _, rfl, rfl, SqL.of hd, at2 _ _ _ _, _, _, rfl, rfl, _, rfl, d, _, _, 2, rfl, rfl, hd, rfl, ?_⟩
      refine ⟨_, rfl, d, _, _, _, rfl, rfl, SqL.of upd_same, at0 _ _ _ _, _, _, rfl, rfl, .inr ⟨by decide, by decide⟩, _, _, rfl, rfl, ?_⟩
      refine ⟨_, rfl, _, _, rfl, rfl, _, _, rfl, rfl, (by show (0 : Int) < 2147483647; decide), _, rfl, d, _, _, 0, rfl, rfl, upd_same, rfl, ?_⟩
      refine ⟨_, rfl, d, _, _, _, rfl, rfl, SqL.of upd_same, at0 _ _ _ _, _, _, rfl, rfl, ⟨by decide, by decide⟩, _, rfl, _, _, rfl, rfl, hm0, ?_⟩
      exact q _ _ (Int.emod_nonneg _ (by omega)) (Int.emod_lt_of_pos _ hm0) ⟨_, _, _, upd_same⟩ fun b e => by rw [upd_ne e, upd_ne e]
end

section
variable {P : Program} {w : World} {K : PySem.W.Frag} {mg : Str → Option Value} {base : Heap}
abbrev N_l_deed : List Str := ["_law_d", "_law_word"]
theorem sc_l_deed : FnScope N_l_deed ["_law_d", "_law_word"] (defScope s_l_deed) := ⟨rfl, rfl, rfl, by decide +kernel, rfl, by decide +kernel, by decide +kernel⟩
theorem ok_l_deed {f : Addr} {fd : FuncData} (F : Fun K "_law_deed" "_law_deed" s_l_deed f fd) (T : Dr K mg)
    (C_l_off : Sd.Cal P w K mg base CX0 2 "_law_off" ["_law_d", "_law_most"] (Sd.spOff K))
    : FnOk P w K mg base CX0 3 f fd ["_law_d", "_law_word"] (Sd.spLDeed K) := by
  refine F.ok sc_l_deed (fun vs H Q E h => ?_) (fun cdv A outer s H vs Q E hr h => ?_)
  · obtain ⟨d, a, ns, w, rfl, _⟩ := h
    rfl
  · obtain ⟨d, a, ns, w, rfl, hw, D, hS, q⟩ := h
    refine ⟨_, (pss_cons (ps_if (pt_cmpR op_in_seq (pv 1) (pe_lst (pa_cons pe_str (pa_cons pe_str (pa_cons pe_str (pa_cons pe_str pa_nil))))) (by rfl))
      (pss_one (ps_ret (pe_tup (pa_cons (pv 1) (pa_cons (pe_ix ix_list (pe_lst (pa_cons (Sd.pe_fn C_l_off (hr.mono (by decide)) pass0 (pa_cons (pv 0) (pa_cons pe_int pa_nil))) (pa_cons (Sd.pe_fn C_l_off (hr.mono (by decide)) pass0 (pa_cons (pv 0) (pa_cons pe_int pa_nil))) pa_nil))) (Sd.pe_fn C_l_off (hr.mono (by decide)) pass0 (pa_cons (pv 0) (pa_cons pe_int pa_nil))) (fun _ _ => rfl)) pa_nil)))))
      pss_nil)
      (pss_one (ps_ret (pe_tup (pa_cons (pv 1) pa_nil))))), ?_⟩
    refine ⟨_, rfl, (by show 4 ≤ sizeLine; decide), fun p hp => ⟨p, _, rfl, .inl (SqL.of upd_same), rfl, rfl, _, rfl, ?_⟩⟩
    have D1 : Sd.Dice (upd H p (.lst [.str "set", .str "add", .str "raise", .str "give"])) d a := D.same (Sd.Same.new hp)
    have S1 : SqL K (upd H p (.lst [.str "set", .str "add", .str "raise", .str "give"])) a (ns.map V.int) := (Sd.Same.new hp).seq hS
    have s1 : Same H (upd H p (.lst [.str "set", .str "add", .str "raise", .str "give"])) := Sd.Same.new hp
    generalize upd H p (.lst [.str "set", .str "add", .str "raise", .str "give"]) = H1 at D1 S1 s1
    obtain ⟨dd, rfl⟩ := Sd.word_of hw
    cases dd
    all_goals first
      | refine ⟨_, rfl, (by show 1 ≤ sizeLine; decide), fun t ht => ?_⟩
        exact q t _ _ rfl trivial (s1.free ht) upd_same (D1.same (Sd.Same.new ht)) (Sd.Same.but (s1.trans (Sd.Same.new ht)))
      | refine ⟨_, rfl, _, rfl, d, a, ns, 1000, rfl, D1, S1, by decide, by decide, fun r1 H2 r10 r11 D2 o2 => ?_⟩
        have b2 : Sd.But d H1 H2 := fun c u n e => by rw [o2 c n]; exact e
        have S2 := D1.seq b2 S1
        refine ⟨_, rfl, d, a, ns, 4, rfl, D2, S2, by decide, by decide, fun r2 H3 r20 r21 D3 o3 => ?_⟩
        have b3 : Sd.But d H2 H3 := fun c u n e => by rw [o3 c n]; exact e
        have S3 := D2.seq b3 S2
        refine ⟨(by show 2 ≤ sizeLine; decide), fun l hl => ?_⟩
        have D4 : Sd.Dice (upd H3 l (.lst [.int r1, .int r2])) d a := D3.same (Sd.Same.new hl)
        refine ⟨_, rfl, d, a, ns, 2, rfl, D4, (Sd.Same.new hl).seq S3, by decide, by decide, fun r3 H5 r30 r31 D5 o5 => ?_⟩
        have nl : l ≠ d := fun z => by
          obtain ⟨_, hd⟩ := D3.some
          rw [z, hd] at hl
          cases hl
        have hl5 : H5 l = some (.lst [.int r1, .int r2]) := by rw [o5 l nl]; exact upd_same
        obtain ⟨z, hz, hzz⟩ := Sd.two_at (n := r1) (m := r2) r30 r31
        refine ⟨l, _, _, _, rfl, rfl, SqL.of hl5, hz, ?_⟩
        refine ⟨(by show 2 ≤ sizeLine; decide), fun t ht => ?_⟩
        have b5 : Sd.But d (upd H3 l (.lst [.int r1, .int r2])) H5 := fun c u n e => by rw [o5 c n]; exact e
        have bt : ∀ o, Sd.But d H (upd H5 t o) := fun o => ((((Sd.Same.but (d := d) s1).trans b2).trans b3).trans (Sd.Same.but (Sd.Same.new hl))).trans (b5.trans (Sd.Same.but (Sd.Same.new ht)))
        have hf : H t = none := by
          cases e : H t with
          | none => rfl
          | some u =>
            have n : t ≠ d := fun z => by
              obtain ⟨_, hd⟩ := D5.some
              rw [z, hd] at ht
              cases ht
            have e5 := (((((Sd.Same.but (d := d) s1).trans b2).trans b3).trans (Sd.Same.but (Sd.Same.new hl))).trans b5) t u n e
            rw [ht] at e5
            cases e5
        have ok9 : 0 ≤ z ∧ z ≤ 999 := by
          rcases hzz with rfl | rfl <;> omega
        first
          | exact q t _ (.set z) rfl ok9 hf upd_same (D5.same (Sd.Same.new ht)) (bt _)
          | exact q t _ (.add z) rfl ok9 hf upd_same (D5.same (Sd.Same.new ht)) (bt _)
          | exact q t _ (.rais z) rfl ok9 hf upd_same (D5.same (Sd.Same.new ht)) (bt _)
          | exact q t _ (.give z) rfl ok9 hf upd_same (D5.same (Sd.Same.new ht)) (bt _)
end

section
variable {P : Program} {w : World} {K : PySem.W.Frag} {mg : Str → Option Value} {base : Heap}
abbrev N_first_state : List Str := ["many"]
theorem sc_first_state : FnScope N_first_state ["many"] (defScope s_first_state) := ⟨rfl, rfl, rfl, by decide +kernel, rfl, by decide +kernel, by decide +kernel⟩
theorem ok_first_state {f : Addr} {fd : FuncData} (F : Fun K "first_state" "first_state" s_first_state f fd) (T : Dr K mg)
    : FnOk P w K mg base CX0 1 f fd ["many"] (Sd.spFirst) := by
  refine F.ok sc_first_state (fun vs H Q E h => ?_) (fun cdv A outer s H vs Q E hr h => ?_)
  · obtain ⟨m, rfl, _⟩ := h
    rfl
  · obtain ⟨m, rfl, h1, h2, q⟩ := h
    refine ⟨_, (pss_one (ps_ret (pe_tup (pa_cons pe_int (pa_cons (pe_op Sd.op_repT1 (pe_tup (pa_cons pe_int pa_nil)) (pv 0)) (pa_cons pe_int (pa_cons pe_int (pa_cons (pe_tup pa_nil) pa_nil)))))))), ?_⟩
    refine ⟨(by show 1 ≤ sizeLine; decide), fun t0 ht0 => ⟨_, rfl, t0, _, _, rfl, rfl, SqT.of upd_same, (by intro z; cases z), by omega, by omega, (by show 1 ≤ 1000; decide), ?_⟩⟩
    have fin : ∀ pc H1, Same H H1 → H1 pc = some (.tup ((List.replicate m (0 : Int)).map V.int)) → ∀ pl, H1 pl = none → ∀ t, upd H1 pl (.tup []) t = none → Q (.ref t) (upd (upd H1 pl (.tup [])) t (.tup [.int 0, .ref pc, .int 0, .int 0, .ref pl])) := fun pc H1 s1 hc pl hpl t ht =>
      q _ _ ((s1.trans (Sd.Same.new hpl)).trans (Sd.Same.new ht)) ⟨t, pc, pl, rfl, upd_same, Sd.Same.new ht _ _ (Sd.Same.new hpl _ _ hc), Sd.Same.new ht _ _ upd_same⟩
    refine ⟨fun e => ?_, fun e => fun p hp => ?_⟩
    · refine ⟨(by show 0 ≤ sizeLine; decide), fun pl hpl => ⟨(by show 5 ≤ sizeLine; decide), fun t ht => ?_⟩⟩
      refine fin t0 _ (Sd.Same.new ht0) ?_ pl hpl t ht
      have e1 : m = 1 := by omega
      rw [upd_same, e1]
      rfl
    · refine ⟨(by show 0 ≤ sizeLine; decide), fun pl hpl => ⟨(by show 5 ≤ sizeLine; decide), fun t ht => ?_⟩⟩
      refine fin p _ ((Sd.Same.new ht0).trans (Sd.Same.new hp)) ?_ pl hpl t ht
      rw [upd_same, Int.toNat_natCast, Sd.rep_flat]
abbrev N_answer_in : List Str := ["state", "deed", "counted", "cells", "added", "top", "line", "word"]
theorem sc_answer_in : FnScope N_answer_in ["state", "deed"] (defScope s_answer_in) := ⟨rfl, rfl, rfl, by decide +kernel, rfl, by decide +kernel, by decide +kernel⟩
theorem ok_answer_in {f : Addr} {fd : FuncData} (F : Fun K "answer_in" "answer_in" s_answer_in f fd) (T : Dr K mg)
    : FnOk P w K mg base CX0 1 f fd ["state", "deed"] (Sd.spAnsIn) := by
  refine F.ok sc_answer_in (fun vs H Q E h => ?_) (fun cdv A outer s H vs Q E hr h => ?_)
  · obtain ⟨v, p, s, d, rfl, _⟩ := h
    rfl
  · obtain ⟨v, p, s, d, rfl, ⟨t, pc, pl, rfl, ht, hc, hl⟩, hp, hn, q⟩ := h
    refine ⟨_, (pss_cons (ps_asg (pv 0) (pg_tup (by rfl) (pgs_cons (pg_name (i := 2) sc_answer_in.nd rfl (Or.inl rfl)) (pgs_cons (pg_name (i := 3) sc_answer_in.nd rfl (Or.inl rfl)) (pgs_cons (pg_name (i := 4) sc_answer_in.nd rfl (Or.inl rfl)) (pgs_cons (pg_name (i := 5) sc_answer_in.nd rfl (Or.inl rfl)) (pgs_cons (pg_name (i := 6) sc_answer_in.nd rfl (Or.inl rfl)) pgs_nil)))))))
      (pss_cons (ps_set (i := 7) sc_answer_in.nd rfl (Or.inl rfl) (pe_ix ix_tup (pv 1) pe_int (fun _ _ => rfl)))
      (pss_cons (ps_if (pt_cmpR op_eq (pv 7) pe_str (nomark _))
      (pss_one (ps_ret (pv 2)))
      pss_nil)
      (pss_cons (ps_if (pt_cmpR op_eq (pv 7) pe_str (nomark _))
      (pss_one (ps_ret (pv 3)))
      pss_nil)
      (pss_cons (ps_if (pt_cmpR op_eq (pv 7) pe_str (nomark _))
      (pss_one (ps_ret (pv 4)))
      pss_nil)
      (pss_cons (ps_if (pt_cmpR op_eq (pv 7) pe_str (nomark _))
      (pss_one (ps_ret (pv 5)))
      pss_nil)
      (pss_cons (ps_if (PW.pt (pw_and (pt_cmpR op_eq (pv 7) pe_str (nomark _)) (pw_and1 (pt_truth (pv 6) (by intro _; rfl)))))
      (pss_one (ps_ret (pe_ix ix_tup (pv 6) pe_int (fun _ _ => rfl))))
      pss_nil)
      (pss_one (ps_ret pe_non))))))))), ?_⟩
    refine ⟨_, rfl, t, _, rfl, SqT.of ht, rfl, _, _, rfl, _, _, rfl, _, _, rfl, _, _, rfl, _, _, rfl, rfl, ?_⟩
    refine ⟨_, rfl, p, _, _, _, rfl, rfl, SqT.of hp, d.at0, ?_⟩
    cases d
    case count => exact ⟨_, rfl, rfl, _, rfl, _, rfl, q _ rfl⟩
    case look => exact ⟨_, rfl, rfl, _, rfl, _, rfl, rfl, _, rfl, _, rfl, q _ ⟨pc, rfl, hc⟩⟩
    case sum => exact ⟨_, rfl, rfl, _, rfl, _, rfl, rfl, _, rfl, _, rfl, rfl, _, rfl, _, rfl, q _ rfl⟩
    case top => exact ⟨_, rfl, rfl, _, rfl, _, rfl, rfl, _, rfl, _, rfl, rfl, _, rfl, _, rfl, rfl, _, rfl, _, rfl, q _ rfl⟩
    case take =>
      refine ⟨_, rfl, rfl, _, rfl, _, rfl, rfl, _, rfl, _, rfl, rfl, _, rfl, _, rfl, rfl, _, rfl, _, rfl, rfl, _, rfl, _, rfl, _, .inr (.inl ⟨_, SqT.of hl, rfl⟩), ?_⟩
      obtain ⟨_, _, _, _, line⟩ := s
      cases line with
      | nil => exact q _ rfl
      | cons g r => exact ⟨_, rfl, pl, _, _, _, rfl, rfl, SqT.of hl, atI_nat (j := 0) rfl, q _ rfl⟩
    all_goals exact ⟨_, rfl, rfl, _, rfl, _, rfl, rfl, _, rfl, _, rfl, rfl, _, rfl, _, rfl, rfl, _, rfl, _, rfl, rfl, _, rfl, q _ rfl⟩
abbrev N_state_behind : List Str := ["state", "hand", "deed", "counted", "cells", "added", "top", "line", "word"]
theorem sc_state_behind : FnScope N_state_behind ["state", "hand", "deed"] (defScope s_state_behind) := ⟨rfl, rfl, rfl, by decide +kernel, rfl, by decide +kernel, by decide +kernel⟩
theorem ok_state_behind {f : Addr} {fd : FuncData} (F : Fun K "state_behind" "state_behind" s_state_behind f fd) (T : Dr K mg)
    : FnOk P w K mg base CX0 1 f fd ["state", "hand", "deed"] (Sd.spBehind) := by
  refine F.ok sc_state_behind (fun vs H Q E h => ?_) (fun cdv A outer s H vs Q E hr h => ?_)
  · obtain ⟨v, p, s, h, m, d, rfl, _⟩ := h
    rfl
  · obtain ⟨v, p, s, h, m, d, rfl, ⟨t, pc, pl, rfl, ht, hc, hl⟩, hp, hok, hm, hh, q⟩ := h
    refine ⟨_, (pss_cons (ps_asg (pv 0) (pg_tup (by rfl) (pgs_cons (pg_name (i := 3) sc_state_behind.nd rfl (Or.inl rfl)) (pgs_cons (pg_name (i := 4) sc_state_behind.nd rfl (Or.inl rfl)) (pgs_cons (pg_name (i := 5) sc_state_behind.nd rfl (Or.inl rfl)) (pgs_cons (pg_name (i := 6) sc_state_behind.nd rfl (Or.inl rfl)) (pgs_cons (pg_name (i := 7) sc_state_behind.nd rfl (Or.inl rfl)) pgs_nil)))))))
      (pss_cons (ps_set (i := 8) sc_state_behind.nd rfl (Or.inl rfl) (pe_ix ix_tup (pv 2) pe_int (fun _ _ => rfl)))
      (C8.pss_cut (ps_if (pt_cmpR op_eq (pv 8) pe_str (nomark _))
      (pss_one (ps_set (i := 3) sc_state_behind.nd rfl (Or.inl rfl) (pe_op op_add (pv 3) pe_int)))
      (pss_one (ps_if (pt_cmpR op_eq (pv 8) pe_str (nomark _))
      (pss_one (ps_set (i := 4) sc_state_behind.nd rfl (Or.inl rfl) (pe_op op_catA (pe_op op_catA (pe_slice sl_tupA (pv 4) po_none (po_some (pv 1))) (pe_tup (pa_cons (pe_ix ix_tup (pv 2) pe_int (fun _ _ => rfl)) pa_nil))) (pe_slice sl_tupA (pv 4) (po_some (pe_op op_add (pv 1) pe_int)) po_none))))
      (pss_one (ps_if (pt_cmpR op_eq (pv 8) pe_str (nomark _))
      (pss_one (ps_set (i := 5) sc_state_behind.nd rfl (Or.inl rfl) (pe_op op_add (pv 5) (pe_ix ix_tup (pv 2) pe_int (fun _ _ => rfl)))))
      (pss_one (ps_if (pt_cmpR op_eq (pv 8) pe_str (nomark _))
      (pss_one (ps_set (i := 6) sc_state_behind.nd rfl (Or.inl rfl) (pe_callB (call_max2 rfl) (by rfl) T.max (by decide +kernel) (pa_cons (pv 6) (pa_cons (pe_ix ix_tup (pv 2) pe_int (fun _ _ => rfl)) pa_nil)))))
      (pss_one (ps_if (pt_cmpR op_eq (pv 8) pe_str (nomark _))
      (pss_one (ps_set (i := 7) sc_state_behind.nd rfl (Or.inl rfl) (pe_op op_catA (pv 7) (pe_tup (pa_cons (pe_ix ix_tup (pv 2) pe_int (fun _ _ => rfl)) pa_nil)))))
      (pss_one (ps_if (pt_cmpR op_eq (pv 8) pe_str (nomark _))
      (pss_one (ps_set (i := 7) sc_state_behind.nd rfl (Or.inl rfl) (pe_slice sl_tupA (pv 7) (po_some pe_int) po_none)))
      pss_nil)))))))))))
      (pss_one (ps_ret (pe_tup (pa_cons (pv 3) (pa_cons (pv 4) (pa_cons (pv 5) (pa_cons (pv 6) (pa_cons (pv 7) pa_nil))))))))))), ?_⟩
    refine ⟨_, rfl, t, _, rfl, SqT.of ht, rfl, _, _, rfl, _, _, rfl, _, _, rfl, _, _, rfl, _, _, rfl, rfl, ?_⟩
    refine ⟨_, rfl, p, _, _, _, rfl, rfl, SqT.of hp, d.at0, ?_⟩
    refine ⟨fun σ' H' => Same H H' ∧ ∃ u1 u2, σ' = [some (.ref t), some (.int h), some (.ref p), some (.int (s.behind h d).ones), some (.ref u1), some (.int (s.behind h d).added), some (.int (s.behind h d).top), some (.ref u2), some (.str d.word)] ∧
      H' u1 = some (.tup ((s.behind h d).cells.map V.int)) ∧ H' u2 = some (.tup ((s.behind h d).line.map V.int)), ?_, ?_⟩
    · have hcl := hok.cells
      have hll := hok.line
      cases d
      case one => exact ⟨_, rfl, rfl, _, rfl, _, rfl, _, _, rfl, rfl, Same.refl _, pc, pl, rfl, hc, hl⟩
      case set n =>
        refine ⟨_, rfl, rfl, _, rfl, _, rfl, rfl, _, rfl, ?_⟩
        refine ⟨_, rfl, _, rfl, _, rfl, ?_⟩
        refine Sd.slice_r hc fun u1 H1 s1 hu1 => ?_
        refine ⟨_, rfl, p, _, _, _, rfl, rfl, SqT.of (s1 _ _ hp), atI_nat (j := 1) rfl, (by show 1 ≤ sizeLine; decide), fun u2 hu2 => ?_⟩
        have s2 := Sd.Same.new (o := .tup [.int n]) hu2
        have a1 := cutV_length (s.cells.map V.int) none (some (h : Int))
        have a2 := cutV_length (s.cells.map V.int) (some ((h : Int) + 1)) none
        rw [List.length_map, hcl] at a1 a2
        refine Sd.cat_r (s2 _ _ hu1) upd_same (by show _ + 1 ≤ 1001; omega) fun u3 H3 s3 hu3 => ?_
        have s13 := (s1.trans s2).trans s3
        refine ⟨_, rfl, _, rfl, _, _, rfl, rfl, _, rfl, ?_⟩
        dsimp only [tNoPart]
        refine Sd.slice_r (s13 _ _ hc) fun u4 H4 s4 hu4 => ?_
        refine Sd.cat_r (s4 _ _ hu3) hu4 (by rw [List.length_append]; show _ + 1 + _ ≤ 1001; omega) fun u5 H5 s5 hu5 => ?_
        have s15 := (s13.trans s4).trans s5
        refine ⟨s15, u5, pl, rfl, ?_, s15 _ _ hl⟩
        rw [hu5, Sd.cut_take (by rw [List.length_map, hcl]; omega), show ((h : Int) + 1) = ((h + 1 : Nat) : Int) from rfl, Sd.cut_drop]
        show some (HO.tup _) = some (HO.tup ((s.cells.set h n).map V.int))
        rw [List.set_eq_take_append_cons_drop, if_pos (by omega), List.map_append, List.map_cons, List.map_take, List.map_drop, List.append_assoc]
        rfl
      case add n => exact ⟨_, rfl, rfl, _, rfl, _, rfl, rfl, _, rfl, _, rfl, rfl, _, rfl, _, rfl, _, rfl, p, _, _, _, rfl, rfl, SqT.of hp, atI_nat (j := 1) rfl, _, _, rfl, rfl, Same.refl _, pc, pl, rfl, hc, hl⟩
      case rais n => exact ⟨_, rfl, rfl, _, rfl, _, rfl, rfl, _, rfl, _, rfl, rfl, _, rfl, _, rfl, rfl, _, rfl, _, rfl, _, rfl, p, _, _, _, rfl, rfl, SqT.of hp, atI_nat (j := 1) rfl, _, _, rfl, Same.refl _, pc, pl, rfl, hc, hl⟩
      case give n =>
        refine ⟨_, rfl, rfl, _, rfl, _, rfl, rfl, _, rfl, _, rfl, rfl, _, rfl, _, rfl, rfl, _, rfl, _, rfl, rfl, _, rfl, ?_⟩
        refine ⟨_, rfl, _, rfl, p, _, _, _, rfl, rfl, SqT.of hp, atI_nat (j := 1) rfl, (by show 1 ≤ sizeLine; decide), fun u2 hu2 => ?_⟩
        have s2 := Sd.Same.new (o := .tup [.int n]) hu2
        refine Sd.cat_rL (s2 _ _ hl) upd_same (by rw [List.length_map]; show _ + 1 ≤ 10001; omega) fun u3 H3 s3 hu3 => ?_
        refine ⟨s2.trans s3, pc, u3, rfl, (s2.trans s3) _ _ hc, ?_⟩
        rw [hu3]
        show some (HO.tup _) = some (HO.tup ((s.line ++ [n]).map V.int))
        rw [List.map_append]
        rfl
      case take =>
        refine ⟨_, rfl, rfl, _, rfl, _, rfl, rfl, _, rfl, _, rfl, rfl, _, rfl, _, rfl, rfl, _, rfl, _, rfl, rfl, _, rfl, _, rfl, rfl, _, rfl, ?_⟩
        refine ⟨_, rfl, _, rfl, ?_⟩
        dsimp only [tNoPart]
        refine Sd.slice_r hl fun u1 H1 s1 hu1 => ?_
        refine ⟨s1, pc, u1, rfl, s1 _ _ hc, ?_⟩
        rw [hu1]
        show some (HO.tup (cutV (s.line.map V.int) (some ((1 : Nat) : Int)) none)) = some (HO.tup ((s.line.drop 1).map V.int))
        rw [Sd.cut_drop, List.map_drop]
      all_goals exact ⟨_, rfl, rfl, _, rfl, _, rfl, rfl, _, rfl, _, rfl, rfl, _, rfl, _, rfl, rfl, _, rfl, _, rfl, rfl, _, rfl, _, rfl, rfl, _, rfl, Same.refl _, pc, pl, rfl, hc, hl⟩
    · rintro σ' H' ⟨s1, u1, u2, rfl, h1, h2⟩
      refine ⟨_, rfl, _, rfl, _, rfl, _, rfl, _, rfl, (by show 5 ≤ sizeLine; decide), fun z hz => ?_⟩
      exact q _ _ (s1.trans (Sd.Same.new hz)) ⟨z, u1, u2, rfl, upd_same, Sd.Same.new hz _ _ h1, Sd.Same.new hz _ _ h2⟩
end

/-! the law's own five things: its defs -/
section
variable {P : Program} {w : World} {K : PySem.W.Frag} {mg : Str → Option Value} {base : Heap} 
abbrev N_l_plain : List Str := ["_law_many"]
theorem sc_l_plain : FnScope N_l_plain ["_law_many"] (defScope s_l_plain) := ⟨rfl, rfl, rfl, by decide +kernel, rfl, by decide +kernel, by decide +kernel⟩
theorem ok_l_plain {f : Addr} {fd : FuncData} (F : Fun K "_law_plain" "_law_plain" s_l_plain f fd) (T : Dr K mg)
    : FnOk P w K mg base CX0 1 f fd ["_law_many"] (Sd.spLPlain) := by
  refine F.ok sc_l_plain (fun vs H Q E h => ?_) (fun cdv A outer s H vs Q E hr h => ?_)
  · obtain ⟨m, rfl, _⟩ := h
    rfl
  · obtain ⟨m, rfl, hm, q⟩ := h
    refine ⟨_, (pss_one (ps_ret (pe_disp (pps_cons pe_str pe_int (pps_cons pe_str (pe_op op_rep (pe_lst (pa_cons pe_int pa_nil)) (pv 0)) (pps_cons pe_str (pe_op op_rep (pe_lst (pa_cons pe_int pa_nil)) (pv 0)) (pps_cons pe_str (pe_op op_rep (pe_lst (pa_cons pe_int pa_nil)) (pv 0)) (pps_cons pe_str (pe_lst pa_nil) pps_nil))))) (by rfl) (by rfl) (fun z => by cases z) (by decide)))), ?_⟩
    refine fun d hd => ?_
    have sd := Sd.Same.new (o := .dK []) hd
    have cd : upd H d (.dK []) d = some (.dK []) := upd_same
    generalize upd H d (.dK []) = H0 at sd cd ⊢
    refine ⟨(by show 1 ≤ sizeLine; decide), fun l1 hl1 => ⟨_, rfl, l1, _, _, rfl, rfl, upd_same, by omega, by omega, Sd.size1 (by omega) (by omega), fun a1 ha1 => ?_⟩⟩
    have s1 := (Sd.Same.new (o := .lst [.int 0]) hl1).trans (Sd.Same.new (o := .lst (List.replicate ((m : Nat) : Int).toNat [V.int 0]).flatten) ha1)
    have f1 : H0 a1 = none := (Sd.Same.new (o := .lst [.int 0]) hl1).free ha1
    have c1 : upd (upd H0 l1 (.lst [.int 0])) a1 (.lst (List.replicate ((m : Nat) : Int).toNat [V.int 0]).flatten) a1 = some (.lst ((List.replicate m (0 : Int)).map V.int)) := by rw [upd_same, Int.toNat_natCast, Sd.rep_flat]
    generalize upd (upd H0 l1 (.lst [.int 0])) a1 (.lst (List.replicate ((m : Nat) : Int).toNat [V.int 0]).flatten) = H1 at s1 c1 ⊢
    refine ⟨(by show 1 ≤ sizeLine; decide), fun l2 hl2 => ⟨_, rfl, l2, _, _, rfl, rfl, upd_same, by omega, by omega, Sd.size1 (by omega) (by omega), fun a2 ha2 => ?_⟩⟩
    have s2 := (Sd.Same.new (o := .lst [.int 0]) hl2).trans (Sd.Same.new (o := .lst (List.replicate ((m : Nat) : Int).toNat [V.int 0]).flatten) ha2)
    have f2 : H1 a2 = none := (Sd.Same.new (o := .lst [.int 0]) hl2).free ha2
    have c2 : upd (upd H1 l2 (.lst [.int 0])) a2 (.lst (List.replicate ((m : Nat) : Int).toNat [V.int 0]).flatten) a2 = some (.lst ((List.replicate m (0 : Int)).map V.int)) := by rw [upd_same, Int.toNat_natCast, Sd.rep_flat]
    generalize upd (upd H1 l2 (.lst [.int 0])) a2 (.lst (List.replicate ((m : Nat) : Int).toNat [V.int 0]).flatten) = H2 at s2 c2 ⊢
    refine ⟨(by show 1 ≤ sizeLine; decide), fun l3 hl3 => ⟨_, rfl, l3, _, _, rfl, rfl, upd_same, by omega, by omega, Sd.size1 (by omega) (by omega), fun a3 ha3 => ?_⟩⟩
    have s3 := (Sd.Same.new (o := .lst [.int 0]) hl3).trans (Sd.Same.new (o := .lst (List.replicate ((m : Nat) : Int).toNat [V.int 0]).flatten) ha3)
    have f3 : H2 a3 = none := (Sd.Same.new (o := .lst [.int 0]) hl3).free ha3
    have c3 : upd (upd H2 l3 (.lst [.int 0])) a3 (.lst (List.replicate ((m : Nat) : Int).toNat [V.int 0]).flatten) a3 = some (.lst ((List.replicate m (0 : Int)).map V.int)) := by rw [upd_same, Int.toNat_natCast, Sd.rep_flat]
    generalize upd (upd H2 l3 (.lst [.int 0])) a3 (.lst (List.replicate ((m : Nat) : Int).toNat [V.int 0]).flatten) = H3 at s3 c3 ⊢
    refine ⟨(by show 0 ≤ sizeLine; decide), fun a4 ha4 => ?_⟩
    have s4 := Sd.Same.new (o := .lst []) ha4
    have c4 : upd H3 a4 (.lst []) a4 = some (.lst (([] : List Int).map V.int)) := upd_same
    generalize upd H3 a4 (.lst []) = H4 at s4 c4 ⊢
    have s04 := ((s1.trans s2).trans s3).trans s4
    refine ⟨s04 _ _ cd, [(Sum.inr "ones", .int 0), (Sum.inr "set", .ref a1), (Sum.inr "add", .ref a2), (Sum.inr "raise", .ref a3), (Sum.inr "line", .ref a4)], rfl, (by show 5 ≤ 15; decide), ?_⟩
    have k1 : d ≠ a1 := ne_of (s04 _ _ cd) (((s2.trans s3).trans s4) _ _ c1) (by intro z; cases z)
    have k2 : d ≠ a2 := ne_of (s04 _ _ cd) ((s3.trans s4) _ _ c2) (by intro z; cases z)
    have k3 : d ≠ a3 := ne_of (s04 _ _ cd) (s4 _ _ c3) (by intro z; cases z)
    have k4 : d ≠ a4 := ne_of (s04 _ _ cd) c4 (by intro z; cases z)
    have f4 : H3 a4 = none := ha4
    have n12 : a1 ≠ a2 := ne_of_none c1 f2
    have n13 : a1 ≠ a3 := ne_of_none (s2 _ _ c1) f3
    have n14 : a1 ≠ a4 := ne_of_none ((s2.trans s3) _ _ c1) f4
    have n23 : a2 ≠ a3 := ne_of_none c2 f3
    have n24 : a2 ≠ a4 := ne_of_none (s3 _ _ c2) f4
    have n34 : a3 ≠ a4 := ne_of_none c3 f4
    refine q d a1 a2 a3 a4 _ ?_ (fun b o e => ?_) ⟨?_, ?_, ?_, ?_, ?_, n12, n13, n14, n23, n24, n34⟩
    · intro x hx
      simp only [List.mem_cons, List.not_mem_nil, or_false] at hx
      rcases hx with rfl | rfl | rfl | rfl | rfl
      · exact hd
      · exact sd.free f1
      · exact (sd.trans s1).free f2
      · exact ((sd.trans s1).trans s2).free f3
      · exact (((sd.trans s1).trans s2).trans s3).free f4
    · rw [upd_ne (ne_of_none e hd)]
      exact (sd.trans s04) _ _ e
    · rw [upd_same]
      rfl
    · rw [upd_ne k1.symm]
      exact ((s2.trans s3).trans s4) _ _ c1
    · rw [upd_ne k2.symm]
      exact (s3.trans s4) _ _ c2
    · rw [upd_ne k3.symm]
      exact s4 _ _ c3
    · rw [upd_ne k4.symm]
      exact c4
abbrev N_l_at_once : List Str := ["_law_plain_here", "_law_hand", "_law_deed_here", "_law_word"]
theorem sc_l_at_once : FnScope N_l_at_once ["_law_plain_here", "_law_hand", "_law_deed_here"] (defScope s_l_at_once) := ⟨rfl, rfl, rfl, by decide +kernel, rfl, by decide +kernel, by decide +kernel⟩
theorem ok_l_at_once {f : Addr} {fd : FuncData} (F : Fun K "_law_at_once" "_law_at_once" s_l_at_once f fd) (T : (Txt K mg))
    : FnOk P w K mg base CX0 1 f fd ["_law_plain_here", "_law_hand", "_law_deed_here"] (Sd.spAtOnce) := by
  refine F.ok sc_l_at_once (fun vs H Q E h => ?_) (fun cdv A outer s H vs Q E hr h => ?_)
  · obtain ⟨d, a1, a2, a3, a4, p, s, h, m, dd, rfl, _⟩ := h
    rfl
  · obtain ⟨d, a1, a2, a3, a4, p, s, h, m, dd, rfl, hL, hp, hok, hm, hh, hdd, hln, q⟩ := h
    refine ⟨_, (pss_cons (ps_set (i := 3) sc_l_at_once.nd rfl (Or.inl rfl) (pe_ix ix_tup (pv 2) pe_int (fun _ _ => rfl)))
      (C8.pss_cut (ps_if (pt_cmpR op_eq (pv 3) pe_str (nomark _))
      (pss_one (ps_dput (hu_of hr) (pv 0) pe_str (pe_op op_add (pe_dget (hu_of hr) (pv 0) pe_str (fun _ _ => rfl)) pe_int) rfl))
      (pss_one (ps_if (pt_cmpR op_eq (pv 3) pe_str (nomark _))
      (pss_one (ps_asg (pe_ix ix_tup (pv 2) pe_int (fun _ _ => rfl)) (pg_sub (pe_dget (hu_of hr) (pv 0) pe_str (fun _ _ => rfl)) (pv 1) set_list)))
      (pss_one (ps_if (pt_cmpR op_eq (pv 3) pe_str (nomark _))
      (pss_one (ps_asg (pe_op op_add (pe_ix ix_list (pe_dget (hu_of hr) (pv 0) pe_str (fun _ _ => rfl)) (pv 1) (fun _ _ => rfl)) (pe_ix ix_tup (pv 2) pe_int (fun _ _ => rfl))) (pg_sub (pe_dget (hu_of hr) (pv 0) pe_str (fun _ _ => rfl)) (pv 1) set_list)))
      (pss_one (ps_if (pt_cmpR op_eq (pv 3) pe_str (nomark _))
      (pss_one (ps_asg (pe_callB (call_max2 rfl) (by rfl) T.max (by decide +kernel) (pa_cons (pe_ix ix_list (pe_dget (hu_of hr) (pv 0) pe_str (fun _ _ => rfl)) (pv 1) (fun _ _ => rfl)) (pa_cons (pe_ix ix_tup (pv 2) pe_int (fun _ _ => rfl)) pa_nil))) (pg_sub (pe_dget (hu_of hr) (pv 0) pe_str (fun _ _ => rfl)) (pv 1) set_list)))
      (pss_one (ps_if (pt_cmpR op_eq (pv 3) pe_str (nomark _))
      (pss_one (ps_expr (pe_bm PySem.F.plainAttrs_list PySem.F.slot_list_append PySem.F.type_list_append mt_append (pe_dget (hu_of hr) (pv 0) pe_str (fun _ _ => rfl)) (pa_cons (pe_ix ix_tup (pv 2) pe_int (fun _ _ => rfl)) pa_nil))))
      (pss_one (ps_if (pt_cmpR op_eq (pv 3) pe_str (nomark _))
      (pss_one (ps_ret (pe_dget (hu_of hr) (pv 0) pe_str (fun _ _ => rfl))))
      (pss_one (ps_if (pt_cmpR op_eq (pv 3) pe_str (nomark _))
      (pss_one (ps_ret (pe_callTy call_tuple_of (by rfl) T.tuple (by decide +kernel) (pa_cons (pe_dget (hu_of hr) (pv 0) pe_str (fun _ _ => rfl)) pa_nil))))
      (pss_one (ps_if (pt_cmpR op_eq (pv 3) pe_str (nomark _))
      (pss_one (ps_ret (pe_callB (cr_sum rfl) (by rfl) T.sum (by decide +kernel) (pa_cons (pe_dget (hu_of hr) (pv 0) pe_str (fun _ _ => rfl)) pa_nil))))
      (pss_one (ps_if (pt_cmpR op_eq (pv 3) pe_str (nomark _))
      (pss_one (ps_ret (pe_callB (cr_max rfl) (by rfl) T.max (by decide +kernel) (pa_cons (pe_dget (hu_of hr) (pv 0) pe_str (fun _ _ => rfl)) pa_nil))))
      (pss_one (ps_if (pt_cmpR (op_neD hr.units) (pe_dget (hu_of hr) (pv 0) pe_str (fun _ _ => rfl)) (pe_lst pa_nil) (nomark _))
      (pss_one (ps_ret (pe_bm PySem.F.plainAttrs_list PySem.F.slot_list_pop PySem.F.type_list_pop mt_popAt (pe_dget (hu_of hr) (pv 0) pe_str (fun _ _ => rfl)) (pa_cons pe_int pa_nil))))
      pss_nil)))))))))))))))))))
      (pss_one (ps_ret pe_non)))), ?_⟩
    refine ⟨_, rfl, p, _, _, _, rfl, rfl, SqT.of hp, dd.at0, ?_⟩
    refine ⟨fun σ' H' => (s.behind h dd).At H' d a1 a2 a3 a4 ∧ Sd.Off [d, a1, a2, a3, a4] H H' ∧ s.ans dd = .non, ?_, fun σ' H' ⟨h1, h2, h3⟩ => q _ H' (by rw [h3]; rfl) h1 h2⟩
    have hadd := hok.adds
    have htop := hok.tops
    have hcl := hok.cells
    have ga : s.adds[h]? = some (s.adds.getD h 0) := by rw [List.getElem?_eq_getElem (by omega), List.getD_eq_getElem?_getD, List.getElem?_eq_getElem (by omega)]; rfl
    have gt : s.tops[h]? = some (s.tops.getD h 0) := by rw [List.getElem?_eq_getElem (by omega), List.getD_eq_getElem?_getD, List.getElem?_eq_getElem (by omega)]; rfl
    cases dd
    case one =>
      refine ⟨_, rfl, rfl, _, rfl, _, rfl, d, _, rfl, DGet.k (k := Sum.inr "ones") hL.d, _, _, rfl, rfl, _, rfl, d, _, rfl, DPut.k (k := Sum.inr "ones") hL.d (by show 5 < sizeLine; decide), ?_⟩
      exact ⟨hL.setD _, Sd.Off.upd (by simp), rfl⟩
    case set n =>
      refine ⟨_, rfl, rfl, _, rfl, _, rfl, rfl, _, rfl, _, rfl, p, _, _, _, rfl, rfl, SqT.of hp, atI_nat (j := 1) rfl, _, rfl, d, _, rfl, DGet.k (k := Sum.inr "set") hL.d, _, rfl, a1, _, _, h, rfl, rfl, hL.c1, Sd.ixN_nat (by rw [List.length_map]; omega), ?_⟩
      rw [← List.map_set]
      exact ⟨hL.set1 _, Sd.Off.upd (by simp), rfl⟩
    case add n =>
      refine ⟨_, rfl, rfl, _, rfl, _, rfl, rfl, _, rfl, _, rfl, rfl, _, rfl, _, rfl, d, _, rfl, DGet.k (k := Sum.inr "add") hL.d, _, rfl, a2, _, _, _, rfl, rfl, SqL.of hL.c2, atI_nat (Sd.ints_get ga), _, rfl, p, _, _, _, rfl, rfl, SqT.of hp, atI_nat (j := 1) rfl, _, _, rfl, rfl, _, rfl, d, _, rfl, DGet.k (k := Sum.inr "add") hL.d, _, rfl, a2, _, _, h, rfl, rfl, hL.c2, Sd.ixN_nat (by rw [List.length_map]; omega), ?_⟩
      rw [← List.map_set]
      exact ⟨hL.set2 _, Sd.Off.upd (by simp), rfl⟩
    case rais n =>
      refine ⟨_, rfl, rfl, _, rfl, _, rfl, rfl, _, rfl, _, rfl, rfl, _, rfl, _, rfl, rfl, _, rfl, _, rfl, d, _, rfl, DGet.k (k := Sum.inr "raise") hL.d, _, rfl, a3, _, _, _, rfl, rfl, SqL.of hL.c3, atI_nat (Sd.ints_get gt), _, rfl, p, _, _, _, rfl, rfl, SqT.of hp, atI_nat (j := 1) rfl, _, _, rfl, _, rfl, d, _, rfl, DGet.k (k := Sum.inr "raise") hL.d, _, rfl, a3, _, _, h, rfl, rfl, hL.c3, Sd.ixN_nat (by rw [List.length_map]; omega), ?_⟩
      rw [← List.map_set]
      exact ⟨hL.set3 _, Sd.Off.upd (by simp), rfl⟩
    case give n =>
      refine ⟨_, rfl, rfl, _, rfl, _, rfl, rfl, _, rfl, _, rfl, rfl, _, rfl, _, rfl, rfl, _, rfl, _, rfl, rfl, _, rfl, _, rfl, d, _, rfl, DGet.k (k := Sum.inr "line") hL.d, .inl ⟨rfl, _, SqL.of hL.c4⟩, _, rfl, p, _, _, _, rfl, rfl, SqT.of hp, atI_nat (j := 1) rfl, a4, _, _, rfl, rfl, hL.c4, ?_, ?_⟩
      · rw [List.length_map]
        exact Nat.lt_trans hln (by decide)
      · have e : s.line.map V.int ++ [V.int n] = (s.line ++ [n]).map V.int := by rw [List.map_append]; rfl
        rw [e]
        exact ⟨hL.set4 _, Sd.Off.upd (by simp), rfl⟩
    case count => exact ⟨_, rfl, rfl, _, rfl, _, rfl, rfl, _, rfl, _, rfl, rfl, _, rfl, _, rfl, rfl, _, rfl, _, rfl, rfl, _, rfl, _, rfl, rfl, _, rfl, _, rfl, d, _, rfl, DGet.k (k := Sum.inr "ones") hL.d, q _ _ rfl hL (Sd.Off.refl _ _)⟩
    case look =>
      refine ⟨_, rfl, rfl, _, rfl, _, rfl, rfl, _, rfl, _, rfl, rfl, _, rfl, _, rfl, rfl, _, rfl, _, rfl, rfl, _, rfl, _, rfl, rfl, _, rfl, _, rfl, rfl, _, rfl, _, rfl, d, _, rfl, DGet.k (k := Sum.inr "set") hL.d, a1, _, rfl, .inl ⟨SqL.of hL.c1, fun t ht => ?_⟩⟩
      exact q _ _ ⟨t, rfl, upd_same⟩ (hL.off (F := []) (Sd.Off.of_same (Sd.Same.new ht)) (by simp)) (Sd.Off.of_same (Sd.Same.new ht))
    case sum => exact ⟨_, rfl, rfl, _, rfl, _, rfl, rfl, _, rfl, _, rfl, rfl, _, rfl, _, rfl, rfl, _, rfl, _, rfl, rfl, _, rfl, _, rfl, rfl, _, rfl, _, rfl, rfl, _, rfl, _, rfl, rfl, _, rfl, _, rfl, d, _, rfl, DGet.k (k := Sum.inr "add") hL.d, a2, _, rfl, SqL.of hL.c2, q _ _ rfl hL (Sd.Off.refl _ _)⟩
    case top =>
      refine ⟨_, rfl, rfl, _, rfl, _, rfl, rfl, _, rfl, _, rfl, rfl, _, rfl, _, rfl, rfl, _, rfl, _, rfl, rfl, _, rfl, _, rfl, rfl, _, rfl, _, rfl, rfl, _, rfl, _, rfl, rfl, _, rfl, _, rfl, rfl, _, rfl, _, rfl, d, _, rfl, DGet.k (k := Sum.inr "raise") hL.d, a3, _, rfl, SqL.of hL.c3, by omega, fun mx hm1 hm2 => q _ _ ?_ hL (Sd.Off.refl _ _)⟩
      rw [Sd.top0_of hok.tops0 hm1 hm2]
      rfl
    case take =>
      refine ⟨_, rfl, rfl, _, rfl, _, rfl, rfl, _, rfl, _, rfl, rfl, _, rfl, _, rfl, rfl, _, rfl, _, rfl, rfl, _, rfl, _, rfl, rfl, _, rfl, _, rfl, rfl, _, rfl, _, rfl, rfl, _, rfl, _, rfl, rfl, _, rfl, _, rfl, d, _, rfl, DGet.k (k := Sum.inr "line") hL.d, (by show 0 ≤ sizeLine; decide), fun e he => ?_⟩
      have s1 : Same H (upd H e (.lst [])) := Sd.Same.new he
      have ce : upd H e (.lst []) e = some (.lst (([] : List Int).map V.int)) := upd_same
      have L1 := hL.off (F := []) (Sd.Off.of_same s1) (by simp)
      generalize upd H e (.lst []) = H1 at s1 ce L1 ⊢
      refine ⟨Sd.dInts s.line, Sd.dInts [], Sd.dInts_dp (SqL.of L1.c4), Sd.dInts_dp (SqL.of ce), Sd.dInts_shaped _, Sd.dInts_shaped _, _, rfl, ?_⟩
      obtain ⟨ones, cells, adds, tops, line⟩ := s
      cases line with
      | nil => exact ⟨L1, Sd.Off.of_same s1, rfl⟩
      | cons g r =>
        refine ⟨_, rfl, d, _, rfl, DGet.k (k := Sum.inr "line") L1.d, .inl ⟨rfl, _, SqL.of L1.c4⟩, a4, _, _, 0, _, rfl, rfl, L1.c4, by decide, by decide, seqIndex_of (by decide) (by show (0 : Int) < _; rw [List.length_map, List.length_cons]; omega), rfl, ?_⟩
        exact q _ _ rfl (L1.set4 r) ((Sd.Off.of_same s1).trans (Sd.Off.upd (by simp)))
end

section
variable {P : Program} {w : World} {K : PySem.W.Frag} {mg : Str → Option Value} {base : Heap} 
abbrev N_l_keeps : List Str := ["_law_records", "_law_order", "_law_many", "_law_plain_here", "_law_latest", "_law_place", "_law_hand", "_law_deed_here", "_law_begin", "_law_end", "_law_answer"]
theorem sc_l_keeps : FnScope N_l_keeps ["_law_records", "_law_order", "_law_many"] (defScope s_l_keeps) := ⟨rfl, rfl, rfl, by decide +kernel, rfl, by decide +kernel, by decide +kernel⟩
theorem ok_l_keeps {f : Addr} {fd : FuncData} (F : Fun K "_law_keeps" "_law_keeps" s_l_keeps f fd) (T : (Txt K mg))
    (C_l_plain : Sd.Cal P w K mg base CX0 1 "_law_plain" ["_law_many"] (Sd.spLPlain))
    (C_l_at_once : Sd.Cal P w K mg base CX0 1 "_law_at_once" ["_law_plain_here", "_law_hand", "_law_deed_here"] (Sd.spAtOnce))
    : FnOk P w K mg base CX0 2 f fd ["_law_records", "_law_order", "_law_many"] (Sd.spKeepsM) := by
  refine F.ok sc_l_keeps (fun vs H Q E h => ?_) (fun cdv A outer s H vs Q E hr h => ?_)
  · obtain ⟨rl, ol, recs, order, m, rfl, _⟩ := h
    rfl
  · obtain ⟨rl, ol, recs, order, m, rfl, hR, hO, hm1, hm, q⟩ := h
    refine ⟨_, (pss_cons (ps_if (PW.pt (pw_or (pt_not (pt_val (pe_callB call_isi (by rfl) T.isinstance (by decide +kernel) (pa_cons (pv 1) (pa_cons (pe_bltn (v := .ty "list") (u := .type "list") (by rfl) T.list (by decide +kernel) rfl) pa_nil))))) (pw_or1 (pt_cmpR (op_neD hr.units) (pe_callB cr_sortedI (by rfl) T.sorted (by decide +kernel) (pa_cons (pv 1) pa_nil)) (pe_listRg rfl rfl T.list (prg_1 rfl T.range (pe_callB call_len_seq (by rfl) T.len (by decide +kernel) (pa_cons (pv 0) pa_nil)))) (nomark _)))))
      (pss_one (ps_ret pe_bl))
      pss_nil)
      (pss_cons (ps_set (i := 3) sc_l_keeps.nd rfl (Or.inl rfl) (Sd.pe_fn C_l_plain (hr.mono (by decide)) pass0 (pa_cons (pv 2) pa_nil)))
      (pss_cons (ps_set (i := 4) sc_l_keeps.nd rfl (Or.inl rfl) (pe_un un_neg pe_int))
      (pss_cons (ps_for PassesOwn.never rfl (pi_list (pv 1)) (pg_name (i := 5) sc_l_keeps.nd rfl (Or.inl rfl))
      (pss_cons (ps_asg (pe_ix ix_list (pv 0) (pv 5) (fun _ _ => rfl)) (pg_tup (by rfl) (pgs_cons (pg_name (i := 6) sc_l_keeps.nd rfl (Or.inl rfl)) (pgs_cons (pg_name (i := 7) sc_l_keeps.nd rfl (Or.inl rfl)) (pgs_cons (pg_name (i := 8) sc_l_keeps.nd rfl (Or.inl rfl)) (pgs_cons (pg_name (i := 9) sc_l_keeps.nd rfl (Or.inl rfl)) (pgs_cons (pg_name (i := 10) sc_l_keeps.nd rfl (Or.inl rfl)) pgs_nil)))))))
      (pss_cons (ps_if (PW.pt (pw_or (pt_cmpR op_lt (pv 9) (pv 4) (nomark _)) (pw_or1 (pt_cmpR (op_neD hr.units) (Sd.pe_fn C_l_at_once (hr.mono (by decide)) pass0 (pa_cons (pv 3) (pa_cons (pv 6) (pa_cons (pv 7) pa_nil)))) (pv 10) (nomark _)))))
      (pss_one (ps_ret pe_bl))
      pss_nil)
      (pss_one (ps_set (i := 4) sc_l_keeps.nd rfl (Or.inl rfl) (pe_callB (call_max2 rfl) (by rfl) T.max (by decide +kernel) (pa_cons (pv 4) (pa_cons (pv 8) pa_nil))))))))
      (pss_one (ps_ret pe_bl)))))), ?_⟩
    obtain ⟨rvs, hrl, hrv⟩ := hR.ls
    have hlen := Sd.Paired.len hrv
    refine ⟨_, rfl, _, _, _, _, true, rfl, .ty _, .base (.lst hO), kit_ty (by decide +kernel), true, rfl, ?_⟩
    refine ⟨_, rfl, ol, order, rfl, SqL.of hO, fun ns' sp hperm hsort hsp => ?_⟩
    have s1 := Sd.Same.new (o := .lst (ns'.map V.int)) hsp
    have c1 : upd H sp (.lst (ns'.map V.int)) sp = some (.lst (ns'.map V.int)) := upd_same
    generalize upd H sp (.lst (ns'.map V.int)) = H1 at s1 c1 ⊢
    refine ⟨_, rfl, rl, _, rfl, .inl (SqL.of (s1 _ _ hrl)), _, rfl, ?_⟩
    rw [hlen]
    refine ⟨RgOk.of_le (by decide) (by have := hR.len; omega) (by decide) (by omega), fun rg hrg => ?_⟩
    have s2 := Sd.Same.new (o := .lst (rgV 0 ((recs.length : Nat) : Int))) hrg
    have erg : rgV 0 ((recs.length : Nat) : Int) = (Sd.rangeI recs.length).map V.int := by
      unfold rgV Sd.rangeI
      rw [List.map_map]
      have : ((recs.length : Nat) : Int) - 0 = ((recs.length : Nat) : Int) := by omega
      rw [this, Int.toNat_natCast]
      refine List.map_congr_left fun i _ => ?_
      show V.int (0 + (i : Nat)) = V.int (i : Nat)
      rw [Int.zero_add]
    have c2 : upd H1 rg (.lst (rgV 0 ((recs.length : Nat) : Int))) rg = some (.lst ((Sd.rangeI recs.length).map V.int)) := by rw [upd_same, erg]
    generalize upd H1 rg (.lst (rgV 0 ((recs.length : Nat) : Int))) = H2 at s2 c2 ⊢
    refine ⟨Sd.dInts ns', Sd.dInts (Sd.rangeI recs.length), Sd.dInts_dp (SqL.of (s2 _ _ c1)), Sd.dInts_dp (SqL.of c2), Sd.dInts_shaped _, Sd.dInts_shaped _, _, rfl, ?_⟩
    rw [Sd.eqv_ints2, Sd.sorted_eq hperm hsort]
    have s12 := s1.trans s2
    by_cases hp : order.Perm (Sd.rangeI recs.length)
    case neg =>
      rw [decide_eq_false hp]
      have e : Sd.keepsM recs order m = false := if_neg hp
      rw [e] at q
      exact q _ s12
    rw [decide_eq_true hp]
    have eK : Sd.keepsM recs order m = Sd.runK recs (order.map Int.toNat) (Sd.L5.first m) (-1) := if_pos hp
    rw [eK] at q
    refine ⟨_, rfl, m, rfl, hm, fun d a1 a2 a3 a4 H3 fF s3 L3 => ?_⟩
    have s13 := s12.trans s3
    refine ⟨_, rfl, ?_⟩
    have hO3 := s13 _ _ hO
    have olF : ol ∉ [d, a1, a2, a3, a4] := Sd.free_ne fF (s12 _ _ hO)
    have rlF : rl ∉ [d, a1, a2, a3, a4] := Sd.free_ne fF (s12 _ _ hrl)
    have fH : ∀ x ∈ [d, a1, a2, a3, a4], H x = none := fun x hx => s12.free (fF x hx)
    have fresh : ∀ {H' : Hp}, Sd.Off [d, a1, a2, a3, a4] H3 H' → Same H H' := fun o b u e => o b u (fun mm => by rw [fH b mm] at e; cases e) (s13 b u e)
    refine ⟨_, rfl, ol, rfl, ⟨_, SqL.of hO3⟩, ?_⟩
    refine for_list (K := K) (xs := order.map V.int) (fun k σ H' => ∃ (s : Sd.L5) (lt : Int) (v5 v6 v7 v8 v9 v10 : Option V), σ = [some (.ref rl), some (.ref ol), some (.int m), some (.ref d), some (.int lt), v5, v6, v7, v8, v9, v10] ∧
        s.At H' d a1 a2 a3 a4 ∧ s.Ok m ∧ s.line.length ≤ k ∧ Sd.Off [d, a1, a2, a3, a4] H3 H' ∧ Sd.Tu H3 H' ∧ Sd.runK recs ((order.map Int.toNat).drop k) s lt = Sd.runK recs (order.map Int.toNat) (Sd.L5.first m) (-1))
      ⟨Sd.L5.first m, -1, none, none, none, none, none, none, rfl, L3, Sd.L5.Ok.first m, Nat.zero_le _, Sd.Off.refl _ _, Sd.Tu.refl _, rfl⟩ (fun k σ H' _ h => by
        obtain ⟨s, lt, v5, v6, v7, v8, v9, v10, _, _, _, _, o, _⟩ := h
        exact SqL.of (o _ _ olF hO3)) ?_ ?_
    · rintro k x σ H' hx ⟨s, lt, v5, v6, v7, v8, v9, v10, rfl, L4, ok4, hln, o4, t4, hrun⟩
      obtain ⟨v, hv, rfl⟩ := Sd.ints_got hx
      have hk := (List.getElem?_eq_some_iff.mp hv).1
      have hvm : v ∈ Sd.rangeI recs.length := hp.mem_iff.mp (List.mem_of_getElem? hv)
      obtain ⟨p, rfl, hpl⟩ := Sd.mem_rangeI hvm
      have hr : recs[p]? = some recs[p] := List.getElem?_eq_getElem hpl
      generalize recs[p] = r at hr
      have hrm := List.mem_of_getElem? hr
      have hok := hR.ok r hrm
      have hlo : order.length = recs.length := by
        have := hp.length_eq
        unfold Sd.rangeI at this
        rw [List.length_map, List.length_range] at this
        exact this
      have hdrop : (order.map Int.toNat).drop k = p :: (order.map Int.toNat).drop (k + 1) := by
        have h1 : k < (order.map Int.toNat).length := by rw [List.length_map]; exact hk
        rw [List.drop_eq_getElem_cons h1]
        congr 1
        rw [List.getElem_map]
        have e := (List.getElem?_eq_some_iff.mp hv).2
        rw [e]
        exact Int.toNat_natCast p
      rw [hdrop] at hrun
      have hrun2 : Sd.runK recs (p :: (order.map Int.toNat).drop (k + 1)) s lt = if (r.fin : Int) < lt then false else if s.ans r.deed = r.ans then Sd.runK recs ((order.map Int.toNat).drop (k + 1)) (s.behind r.hand r.deed) (if (r.beg : Int) > lt then r.beg else lt) else false := by
        show (match recs[p]? with | none => false | some r => _) = _
        rw [hr]
      rw [hrun2] at hrun
      have R4 : Sd.RecsAt H' rl recs m := (hR.off (F := []) (Sd.Off.of_same s13) (by simp) (Sd.Tu.same s13)).off o4 rlF t4
      obtain ⟨vs4, rp, dp, av, h1, h2, h3, h4, h5⟩ := R4.at_ hr
      refine ⟨_, rfl, _, rfl, rl, _, _, _, rfl, rfl, SqL.of h1, h2, rp, _, rfl, SqT.of h3, rfl, _, _, rfl, _, _, rfl, _, _, rfl, _, _, rfl, _, _, rfl, rfl, ?_⟩
      refine ⟨_, rfl, _, rfl, _, _, rfl, rfl, _, rfl, ?_⟩
      refine ite2 (fun c => ?_) (fun c => ?_)
      · have hc := of_decide_eq_true c
        rw [if_pos hc] at hrun
        rw [← hrun] at q
        exact q _ (fresh o4)
      have hc : ¬ ((r.fin : Int) < lt) := fun z => c (decide_eq_true z)
      rw [if_neg hc] at hrun
      have hll : s.line.length < 10000 := by have := hR.len; omega
      refine ⟨_, rfl, _, rfl, _, rfl, d, a1, a2, a3, a4, dp, s, r.hand, m, r.deed, rfl, L4, h4, ok4, hm1, hok.hand, hok.ok, hll, fun u H5 hu L5' o5 => ?_⟩
      have t5 : Sd.Tu H' H5 := Sd.Tu.off o5 L4.noTup
      refine ⟨_, rfl, Sd.ansD (s.ans r.deed), Sd.ansD r.ans, hu.dp, (h5.tu t5).dp, Sd.ansD_shaped _, Sd.ansD_shaped _, _, rfl, ?_⟩
      rw [Sd.ansD_eqv]
      by_cases ca : s.ans r.deed = r.ans
      case neg =>
        rw [decide_eq_false ca]
        rw [if_neg ca] at hrun
        rw [← hrun] at q
        exact q _ (fresh (o4.trans o5))
      rw [decide_eq_true ca]
      rw [if_pos ca] at hrun
      refine ⟨_, rfl, _, rfl, _, _, rfl, ?_⟩
      exact ⟨_, _, _, _, _, _, _, _, rfl, L5', ok4.behind hok.ok hll, Nat.le_trans (s.len_behind _ _) (by omega), o4.trans o5, t4.trans t5, hrun⟩
    · rintro σ H' ⟨s, lt, v5, v6, v7, v8, v9, v10, rfl, L4, ok4, hln, o4, t4, hrun⟩
      rw [List.length_map, List.drop_eq_nil_of_le (by rw [List.length_map]; exact Nat.le_refl _)] at hrun
      rw [← hrun] at q
      exact q _ (fresh o4)
end

section
variable {P : Program} {w : World} {K : PySem.W.Frag} {mg : Str → Option Value} {base : Heap} 
abbrev N_keeps : List Str := ["records", "order", "many", "state", "latest", "place", "hand", "deed", "begin", "end", "answer"]
theorem sc_keeps : FnScope N_keeps ["records", "order", "many"] (defScope s_keeps) := ⟨rfl, rfl, rfl, by decide +kernel, rfl, by decide +kernel, by decide +kernel⟩
theorem ok_keeps {f : Addr} {fd : FuncData} (F : Fun K "keeps" "keeps" s_keeps f fd) (T : (Txt K mg))
    (C_first_state : Sd.Cal P w K mg base CX0 1 "first_state" ["many"] (Sd.spFirst))
    (C_answer_in : Sd.Cal P w K mg base CX0 1 "answer_in" ["state", "deed"] (Sd.spAnsIn))
    (C_state_behind : Sd.Cal P w K mg base CX0 1 "state_behind" ["state", "hand", "deed"] (Sd.spBehind))
    : FnOk P w K mg base CX0 2 f fd ["records", "order", "many"] (Sd.spKeepsM) := by
  refine F.ok sc_keeps (fun vs H Q E h => ?_) (fun cdv A outer s H vs Q E hr h => ?_)
  · obtain ⟨rl, ol, recs, order, m, rfl, _⟩ := h
    rfl
  · obtain ⟨rl, ol, recs, order, m, rfl, hR, hO, hm1, hm, q⟩ := h
    refine ⟨_, (pss_cons (ps_if (pt_cmpR (op_neD hr.units) (pe_callB cr_sortedI (by rfl) T.sorted (by decide +kernel) (pa_cons (pv 1) pa_nil)) (pe_listRg rfl rfl T.list (prg_1 rfl T.range (pe_callB call_len_seq (by rfl) T.len (by decide +kernel) (pa_cons (pv 0) pa_nil)))) (nomark _))
      (pss_one (ps_ret pe_bl))
      pss_nil)
      (pss_cons (ps_set (i := 3) sc_keeps.nd rfl (Or.inl rfl) (Sd.pe_fn C_first_state (hr.mono (by decide)) pass0 (pa_cons (pv 2) pa_nil)))
      (pss_cons (ps_set (i := 4) sc_keeps.nd rfl (Or.inl rfl) pe_non)
      (pss_cons (ps_for PassesOwn.never rfl (pi_list (pv 1)) (pg_name (i := 5) sc_keeps.nd rfl (Or.inl rfl))
      (pss_cons (ps_asg (pe_ix ix_list (pv 0) (pv 5) (fun _ _ => rfl)) (pg_tup (by rfl) (pgs_cons (pg_name (i := 6) sc_keeps.nd rfl (Or.inl rfl)) (pgs_cons (pg_name (i := 7) sc_keeps.nd rfl (Or.inl rfl)) (pgs_cons (pg_name (i := 8) sc_keeps.nd rfl (Or.inl rfl)) (pgs_cons (pg_name (i := 9) sc_keeps.nd rfl (Or.inl rfl)) (pgs_cons (pg_name (i := 10) sc_keeps.nd rfl (Or.inl rfl)) pgs_nil)))))))
      (pss_cons (ps_if (PW.pt (pw_and (pt_cmpR op_notN (pv 4) pe_non (nomark _)) (pw_and1 (pt_cmpR op_gt (pv 4) (pv 9) (nomark _)))))
      (pss_one (ps_ret pe_bl))
      pss_nil)
      (pss_cons (ps_if (pt_cmpR (op_neD hr.units) (Sd.pe_fn C_answer_in (hr.mono (by decide)) pass0 (pa_cons (pv 3) (pa_cons (pv 7) pa_nil))) (pv 10) (nomark _))
      (pss_one (ps_ret pe_bl))
      pss_nil)
      (pss_cons (ps_set (i := 4) sc_keeps.nd rfl (Or.inl rfl) (pe_ifExp (pt_cmpR op_isN (pv 4) pe_non (nomark _)) (pv 8) (pe_callB (call_max2 rfl) (by rfl) T.max (by decide +kernel) (pa_cons (pv 4) (pa_cons (pv 8) pa_nil)))))
      (pss_one (ps_set (i := 3) sc_keeps.nd rfl (Or.inl rfl) (Sd.pe_fn C_state_behind (hr.mono (by decide)) pass0 (pa_cons (pv 3) (pa_cons (pv 6) (pa_cons (pv 7) pa_nil)))))))))))
      (pss_one (ps_ret pe_bl)))))), ?_⟩
    obtain ⟨rvs, hrl, hrv⟩ := hR.ls
    have hlen := Sd.Paired.len hrv
    refine ⟨_, rfl, ol, order, rfl, SqL.of hO, fun ns' sp hperm hsort hsp => ?_⟩
    have s1 := Sd.Same.new (o := .lst (ns'.map V.int)) hsp
    have c1 : upd H sp (.lst (ns'.map V.int)) sp = some (.lst (ns'.map V.int)) := upd_same
    generalize upd H sp (.lst (ns'.map V.int)) = H1 at s1 c1 ⊢
    refine ⟨_, rfl, rl, _, rfl, .inl (SqL.of (s1 _ _ hrl)), _, rfl, ?_⟩
    rw [hlen]
    refine ⟨RgOk.of_le (by decide) (by have := hR.len; omega) (by decide) (by omega), fun rg hrg => ?_⟩
    have s2 := Sd.Same.new (o := .lst (rgV 0 ((recs.length : Nat) : Int))) hrg
    have erg : rgV 0 ((recs.length : Nat) : Int) = (Sd.rangeI recs.length).map V.int := by
      unfold rgV Sd.rangeI
      rw [List.map_map]
      have : ((recs.length : Nat) : Int) - 0 = ((recs.length : Nat) : Int) := by omega
      rw [this, Int.toNat_natCast]
      refine List.map_congr_left fun i _ => ?_
      show V.int (0 + (i : Nat)) = V.int (i : Nat)
      rw [Int.zero_add]
    have c2 : upd H1 rg (.lst (rgV 0 ((recs.length : Nat) : Int))) rg = some (.lst ((Sd.rangeI recs.length).map V.int)) := by rw [upd_same, erg]
    generalize upd H1 rg (.lst (rgV 0 ((recs.length : Nat) : Int))) = H2 at s2 c2 ⊢
    refine ⟨Sd.dInts ns', Sd.dInts (Sd.rangeI recs.length), Sd.dInts_dp (SqL.of (s2 _ _ c1)), Sd.dInts_dp (SqL.of c2), Sd.dInts_shaped _, Sd.dInts_shaped _, _, rfl, ?_⟩
    rw [Sd.eqv_ints2, Sd.sorted_eq hperm hsort]
    have s12 := s1.trans s2
    by_cases hp : order.Perm (Sd.rangeI recs.length)
    case neg =>
      rw [decide_eq_false hp]
      have e : Sd.keepsM recs order m = false := if_neg hp
      rw [e] at q
      exact q _ s12
    rw [decide_eq_true hp]
    rw [Sd.keepsS hR.ok hR.len hp] at q
    refine ⟨_, rfl, m, rfl, hm1, hm, fun sv H3 s3 hs3 => ?_⟩
    have s13 := s12.trans s3
    have hO3 := s13 _ _ hO
    refine ⟨_, rfl, ol, rfl, ⟨_, SqL.of hO3⟩, ?_⟩
    refine for_list (K := K) (xs := order.map V.int) (fun k σ H' => ∃ (s : Sd.St5) (lt : Int) (sv lv : V) (v5 v6 v7 v8 v9 v10 : Option V), σ = [some (.ref rl), some (.ref ol), some (.int m), some sv, some lv, v5, v6, v7, v8, v9, v10] ∧
        s.At H' sv ∧ s.Ok m ∧ s.line.length ≤ k ∧ Same H H' ∧ ((lt = -1 ∧ lv = .non) ∨ (0 ≤ lt ∧ lv = .int lt)) ∧ Sd.runS recs ((order.map Int.toNat).drop k) s lt = Sd.runS recs (order.map Int.toNat) (Sd.St5.first m) (-1))
      ⟨Sd.St5.first m, -1, sv, .non, none, none, none, none, none, none, rfl, hs3, ⟨List.length_replicate, Nat.zero_le _⟩, Nat.zero_le _, s13, .inl ⟨rfl, rfl⟩, rfl⟩ (fun k σ H' _ h => by
        obtain ⟨s, lt, sv, lv, v5, v6, v7, v8, v9, v10, _, _, _, _, o, _⟩ := h
        exact SqL.of (o _ _ hO)) ?_ ?_
    · rintro k x σ H' hx ⟨s, lt, sv, lv, v5, v6, v7, v8, v9, v10, rfl, hs4, ok4, hln, s4, hlt, hrun⟩
      obtain ⟨v, hv, rfl⟩ := Sd.ints_got hx
      have hk := (List.getElem?_eq_some_iff.mp hv).1
      have hvm : v ∈ Sd.rangeI recs.length := hp.mem_iff.mp (List.mem_of_getElem? hv)
      obtain ⟨p, rfl, hpl⟩ := Sd.mem_rangeI hvm
      have hr : recs[p]? = some recs[p] := List.getElem?_eq_getElem hpl
      generalize recs[p] = r at hr
      have hrm := List.mem_of_getElem? hr
      have hok := hR.ok r hrm
      have hlo : order.length = recs.length := by
        have := hp.length_eq
        unfold Sd.rangeI at this
        rw [List.length_map, List.length_range] at this
        exact this
      have hdrop : (order.map Int.toNat).drop k = p :: (order.map Int.toNat).drop (k + 1) := by
        have h1 : k < (order.map Int.toNat).length := by rw [List.length_map]; exact hk
        rw [List.drop_eq_getElem_cons h1]
        congr 1
        rw [List.getElem_map]
        have e := (List.getElem?_eq_some_iff.mp hv).2
        rw [e]
        exact Int.toNat_natCast p
      rw [hdrop] at hrun
      have hrun2 : Sd.runS recs (p :: (order.map Int.toNat).drop (k + 1)) s lt = if (r.fin : Int) < lt then false else if s.ans r.deed = r.ans then Sd.runS recs ((order.map Int.toNat).drop (k + 1)) (s.behind r.hand r.deed) (if (r.beg : Int) > lt then r.beg else lt) else false := by
        show (match recs[p]? with | none => false | some r => _) = _
        rw [hr]
      rw [hrun2] at hrun
      have R4 : Sd.RecsAt H' rl recs m := hR.off (F := []) (Sd.Off.of_same s4) (by simp) (Sd.Tu.same s4)
      obtain ⟨vs4, rp, dp, av, h1, h2, h3, h4, h5⟩ := R4.at_ hr
      refine ⟨_, rfl, _, rfl, rl, _, _, _, rfl, rfl, SqL.of h1, h2, rp, _, rfl, SqT.of h3, rfl, _, _, rfl, _, _, rfl, _, _, rfl, _, _, rfl, _, _, rfl, rfl, ?_⟩
      have hll : s.line.length ≤ 10000 := by have := hR.len; omega
      rcases hlt with ⟨rfl, rfl⟩ | ⟨hl0, rfl⟩
      · have hc : ¬ ((r.fin : Int) < -1) := by omega
        rw [if_neg hc] at hrun
        refine ⟨_, rfl, rfl, _, rfl, ?_⟩
        refine ⟨_, rfl, _, rfl, sv, dp, s, r.deed, rfl, hs4, h4, hll, fun u hu => ?_⟩
        refine ⟨_, rfl, Sd.ansD (s.ans r.deed), Sd.ansD r.ans, hu.dp, h5.dp, Sd.ansD_shaped _, Sd.ansD_shaped _, _, rfl, ?_⟩
        rw [Sd.ansD_eqv]
        by_cases ca : s.ans r.deed = r.ans
        case neg =>
          rw [decide_eq_false ca]
          rw [if_neg ca] at hrun
          rw [← hrun] at q
          exact q _ s4
        rw [decide_eq_true ca]
        rw [if_pos ca, if_pos (show ((r.beg : Nat) : Int) > -1 by omega)] at hrun
        refine ⟨_, rfl, rfl, _, rfl, _, rfl, ?_⟩
        refine ⟨_, rfl, _, rfl, _, rfl, sv, dp, s, r.hand, m, r.deed, rfl, hs4, h4, ok4, hm, hok.hand, fun u2 H5 s5 hs5 => ?_⟩
        refine ⟨s.behind r.hand r.deed, (r.beg : Nat), u2, _, _, _, _, _, _, _, rfl, hs5, ?_, ?_, s4.trans s5, .inr ⟨by omega, rfl⟩, hrun⟩
        · exact ⟨by rw [Sd.St5.cells_behind]; exact ok4.cells, Nat.le_trans (Sd.St5.len_behind s _ _) (by have := hR.len; omega)⟩
        · exact Nat.le_trans (Sd.St5.len_behind s _ _) (by omega)
      · refine ⟨_, rfl, rfl, _, rfl, _, rfl, _, rfl, _, _, rfl, rfl, _, rfl, ?_⟩
        refine ite2 (fun c => ?_) (fun c => ?_)
        · have hc : (r.fin : Int) < lt := of_decide_eq_true c
          rw [if_pos hc] at hrun
          rw [← hrun] at q
          exact q _ s4
        have hc : ¬ ((r.fin : Int) < lt) := fun z => c (decide_eq_true z)
        rw [if_neg hc] at hrun
        refine ⟨_, rfl, _, rfl, sv, dp, s, r.deed, rfl, hs4, h4, hll, fun u hu => ?_⟩
        refine ⟨_, rfl, Sd.ansD (s.ans r.deed), Sd.ansD r.ans, hu.dp, h5.dp, Sd.ansD_shaped _, Sd.ansD_shaped _, _, rfl, ?_⟩
        rw [Sd.ansD_eqv]
        by_cases ca : s.ans r.deed = r.ans
        case neg =>
          rw [decide_eq_false ca]
          rw [if_neg ca] at hrun
          rw [← hrun] at q
          exact q _ s4
        rw [decide_eq_true ca]
        rw [if_pos ca] at hrun
        refine ⟨_, rfl, rfl, _, rfl, _, rfl, _, rfl, _, _, rfl, ?_⟩
        refine ⟨_, rfl, _, rfl, _, rfl, sv, dp, s, r.hand, m, r.deed, rfl, hs4, h4, ok4, hm, hok.hand, fun u2 H5 s5 hs5 => ?_⟩
        refine ⟨s.behind r.hand r.deed, (if ((r.beg : Nat) : Int) > lt then ((r.beg : Nat) : Int) else lt), u2, _, _, _, _, _, _, _, rfl, hs5, ?_, ?_, s4.trans s5, .inr ⟨by split <;> omega, rfl⟩, hrun⟩
        · exact ⟨by rw [Sd.St5.cells_behind]; exact ok4.cells, Nat.le_trans (Sd.St5.len_behind s _ _) (by have := hR.len; omega)⟩
        · exact Nat.le_trans (Sd.St5.len_behind s _ _) (by omega)
    · rintro σ H' ⟨s, lt, sv, lv, v5, v6, v7, v8, v9, v10, rfl, hs4, ok4, hln, s4, hlt, hrun⟩
      rw [List.length_map, List.drop_eq_nil_of_le (by rw [List.length_map]; exact Nat.le_refl _)] at hrun
      rw [← hrun] at q
      exact q _ s4
end

section
variable {P : Program} {w : World} {K : PySem.W.Frag} {mg : Str → Option Value} {base : Heap} 
abbrev N_l_history : List Str := ["_law_d", "_law_many", "_law_words_here", "_law_most", "_law_plain_here", "_law_found", "_law_apart", "_law_k", "_law_deed_here", "_law_hand", "_law_moment", "_law_begin"]
theorem sc_l_history : FnScope N_l_history ["_law_d", "_law_many", "_law_words_here", "_law_most"] (defScope s_l_history) := ⟨rfl, rfl, rfl, by decide +kernel, rfl, by decide +kernel, by decide +kernel⟩
theorem ok_l_history {f : Addr} {fd : FuncData} (F : Fun K "_law_history" "_law_history" s_l_history f fd) (T : (Txt K mg))
    (C_l_off : Sd.Cal P w K mg base CX0 2 "_law_off" ["_law_d", "_law_most"] (Sd.spOff K))
    (C_l_deed : Sd.Cal P w K mg base CX0 3 "_law_deed" ["_law_d", "_law_word"] (Sd.spLDeed K))
    (C_l_plain : Sd.Cal P w K mg base CX0 1 "_law_plain" ["_law_many"] (Sd.spLPlain))
    (C_l_at_once : Sd.Cal P w K mg base CX0 1 "_law_at_once" ["_law_plain_here", "_law_hand", "_law_deed_here"] (Sd.spAtOnce))
    : FnOk P w K mg base CX0 4 f fd ["_law_d", "_law_many", "_law_words_here", "_law_most"] (Sd.spHistory K) := by
  refine F.ok sc_l_history (fun vs H Q E h => ?_) (fun cdv A outer s H vs Q E hr h => ?_)
  · obtain ⟨d, a, wl, ns, ws, m, most, rfl, _⟩ := h
    rfl
  · obtain ⟨d, a, wl, ns, ws, m, most, rfl, D, hS, hwl, nwl, hws, hw0, hw1, hm1, hm, hmost, q⟩ := h
    refine ⟨_, (pss_cons (ps_set (i := 4) sc_l_history.nd rfl (Or.inl rfl) (Sd.pe_fn C_l_plain (hr.mono (by decide)) pass0 (pa_cons (pv 1) pa_nil)))
      (pss_cons (ps_set (i := 5) sc_l_history.nd rfl (Or.inl rfl) (pe_lst pa_nil))
      (pss_cons (ps_set (i := 6) sc_l_history.nd rfl (Or.inl rfl) (pe_ix ix_list (pe_lst (pa_cons pe_int (pa_cons pe_int pa_nil))) (pe_callTy call_int1 (by rfl) T.int (by decide +kernel) (pa_cons (pe_cmpR op_eq (Sd.pe_fn C_l_off (hr.mono (by decide)) pass0 (pa_cons (pv 0) (pa_cons pe_int pa_nil))) pe_int (nomark _)) pa_nil)) (fun _ _ => rfl)))
      (pss_cons (ps_for PassesOwn.never rfl (pi_range1 rfl T.range (pa_cons (Sd.pe_fn C_l_off (hr.mono (by decide)) pass0 (pa_cons (pv 0) (pa_cons (pe_op op_add (pv 3) pe_int) pa_nil))) pa_nil)) (pg_name (i := 7) sc_l_history.nd rfl (Or.inl rfl))
      (pss_cons (ps_set (i := 8) sc_l_history.nd rfl (Or.inl rfl) (Sd.pe_fn C_l_deed (hr.mono (by decide)) pass0 (pa_cons (pv 0) (pa_cons (pe_ix ix_list (pv 2) (Sd.pe_fn C_l_off (hr.mono (by decide)) pass0 (pa_cons (pv 0) (pa_cons (pe_callB call_len_seq (by rfl) T.len (by decide +kernel) (pa_cons (pv 2) pa_nil)) pa_nil))) (fun _ _ => rfl)) pa_nil))))
      (pss_cons (ps_set (i := 9) sc_l_history.nd rfl (Or.inl rfl) (pe_op op_mul (Sd.pe_fn C_l_off (hr.mono (by decide)) pass0 (pa_cons (pv 0) (pa_cons (pv 1) pa_nil))) (pe_callTy call_int1 (by rfl) T.int (by decide +kernel) (pa_cons (pe_cmpR op_ne (pe_ix ix_tup (pv 8) pe_int (fun _ _ => rfl)) pe_str (nomark _)) pa_nil))))
      (pss_cons (ps_set (i := 10) sc_l_history.nd rfl (Or.inl rfl) (pe_op op_add (pe_op op_mul (pv 6) (pv 7)) pe_int))
      (pss_cons (ps_set (i := 11) sc_l_history.nd rfl (Or.inl rfl) (pe_callB (call_max2 rfl) (by rfl) T.max (by decide +kernel) (pa_cons pe_int (pa_cons (pe_op op_sub (pv 10) (Sd.pe_fn C_l_off (hr.mono (by decide)) pass0 (pa_cons (pv 0) (pa_cons (pe_op op_add (pe_op op_mul pe_int (pv 6)) pe_int) pa_nil)))) pa_nil))))
      (pss_one (ps_expr (pe_bm PySem.F.plainAttrs_list PySem.F.slot_list_append PySem.F.type_list_append mt_append (pv 5) (pa_cons (pe_tup (pa_cons (pv 9) (pa_cons (pv 8) (pa_cons (pv 11) (pa_cons (pe_op op_add (pv 10) (Sd.pe_fn C_l_off (hr.mono (by decide)) pass0 (pa_cons (pv 0) (pa_cons (pe_op op_add (pe_op op_mul pe_int (pv 6)) pe_int) pa_nil)))) (pa_cons (Sd.pe_fn C_l_at_once (hr.mono (by decide)) pass0 (pa_cons (pv 4) (pa_cons (pv 9) (pa_cons (pv 8) pa_nil)))) pa_nil)))))) pa_nil)))))))))
      (pss_one (ps_ret (pv 5))))))), ?_⟩
    refine ⟨_, rfl, m, rfl, hm, fun pd a1 a2 a3 a4 H1 fF s1 L1 => ?_⟩
    have D1 := D.same s1
    have dF : d ∉ [pd, a1, a2, a3, a4] := by
      obtain ⟨_, hd⟩ := D.some
      exact Sd.free_ne fF hd
    have tF : ∀ x ∈ [pd, a1, a2, a3, a4], ∃ o, H1 x = some o := by
      intro x hx
      simp only [List.mem_cons, List.not_mem_nil, or_false] at hx
      rcases hx with rfl | rfl | rfl | rfl | rfl
      · exact ⟨_, L1.d⟩
      · exact ⟨_, L1.c1⟩
      · exact ⟨_, L1.c2⟩
      · exact ⟨_, L1.c3⟩
      · exact ⟨_, L1.c4⟩
    refine ⟨(by show 0 ≤ sizeLine; decide), fun fl hfl => ?_⟩
    have s2 := Sd.Same.new (o := .lst []) hfl
    have c2 : upd H1 fl (.lst []) fl = some (.lst []) := upd_same
    generalize upd H1 fl (.lst []) = H2 at s2 c2 ⊢
    have flF : fl ∉ [pd, a1, a2, a3, a4] := fun mm => by
      obtain ⟨o, ho⟩ := tF fl mm
      rw [hfl] at ho
      cases ho
    have nfd : fl ≠ d := (D1.ne hfl).symm
    have D2 := D1.same s2
    have S2 := (s1.trans s2).seq hS
    have L2' := L1.off (F := []) (Sd.Off.of_same s2) (by simp)
    have fH : H fl = none := s1.free hfl
    -- how far apart
    refine ⟨(by show 2 ≤ sizeLine; decide), fun l hl => ?_⟩
    have s3 := Sd.Same.new (o := .lst [.int 10, .int 1]) hl
    have c3 : upd H2 l (.lst [.int 10, .int 1]) l = some (.lst [.int 10, .int 1]) := upd_same
    generalize upd H2 l (.lst [.int 10, .int 1]) = H3 at s3 c3 ⊢
    have D3 := D2.same s3
    have S3 := s3.seq S2
    have nld : l ≠ d := (D2.ne hl).symm
    refine ⟨_, rfl, d, a, ns, 3, rfl, D3, S3, by decide, by decide, fun r4 H4 r40 r41 D4 o4 => ?_⟩
    have b34 := Sd.eqBut o4
    refine ⟨rfl, .inr ⟨_, rfl, ?_⟩⟩
    obtain ⟨ap, hap, hap2⟩ : ∃ ap : Nat, atI [V.int 10, V.int 1] (if decide (V.int r4 = V.int 0) = true then 1 else 0) = some (.int (ap : Int)) ∧ (ap = 10 ∨ ap = 1) := by
      cases decide (V.int r4 = V.int 0)
      · exact ⟨10, atI_nat (j := 0) rfl, .inl rfl⟩
      · exact ⟨1, atI_nat (j := 1) rfl, .inr rfl⟩
    refine ⟨l, _, _, _, rfl, rfl, SqL.of (b34 _ _ nld c3), hap, ?_⟩
    have S4 := D3.seq b34 S3
    have L4 := (L2'.off (F := []) (Sd.Off.of_same s3) (by simp)).off (Sd.Off.but' b34) (fun x hx mm => dF (by rw [← List.mem_singleton.mp mm]; exact hx))
    have c4 := b34 _ _ nfd (s3 _ _ c2)
    have bt4 : Sd.But d H H4 := (Sd.Same.but ((s1.trans s2).trans s3)).trans b34
    refine ⟨_, rfl, _, rfl, _, _, rfl, rfl, d, a, ns, _, rfl, D4, S4, by omega, by omega, fun r H5 r0 r1 D5 o5 => ⟨_, rfl, by omega, by omega, ?_⟩⟩
    have b45 := Sd.eqBut o5
    have S5 := D4.seq b45 S4
    have dL : ∀ x ∈ [pd, a1, a2, a3, a4], x ∉ [d] := fun x hx mm => dF (by rw [← List.mem_singleton.mp mm]; exact hx)
    refine for_range (lo := 0) (n := r.toNat) (fun j σ H' => ∃ (s : Sd.L5) (recs : List Sd.Rec) (v7 v8 v9 v10 v11 : Option V), σ = [some (.ref d), some (.int m), some (.ref wl), some (.int most), some (.ref pd), some (.ref fl), some (.int ap), v7, v8, v9, v10, v11] ∧
        s.At H' pd a1 a2 a3 a4 ∧ s.Ok m ∧ s.line.length ≤ j ∧ Sd.Dice H' d a ∧ SqL K H' a (ns.map V.int) ∧ Sd.But d H H' ∧ Sd.RecsAt H' fl recs m ∧ recs.length = j)
      ⟨Sd.L5.first m, [], none, none, none, none, none, rfl, L4.off (Sd.Off.but' b45) dL, Sd.L5.Ok.first m, Nat.zero_le _, D5, S5, bt4.trans b45, ⟨⟨[], b45 _ _ nfd c4, .nil⟩, by simp, by decide⟩, rfl⟩ ?_ ?_
    · rintro j σ H6 hj ⟨s, recs, v7, v8, v9, v10, v11, rfl, L6, ok6, ln6, D6, S6, b6, R6, rl6⟩
      have hwl6 := b6 _ _ nwl hwl
      -- the deed
      refine ⟨_, rfl, _, rfl, _, rfl, _, rfl, wl, _, rfl, .inl (SqL.of hwl6), d, a, ns, _, rfl, D6, S6, by rw [List.length_map]; omega, by rw [List.length_map]; omega, fun r7 H7 r70 r71 D7 o7 => ?_⟩
      have b67 := Sd.eqBut o7
      have S7 := D6.seq b67 S6
      have hwl7 := b67 _ _ nwl hwl6
      rw [List.length_map] at r71
      obtain ⟨rn, hrn⟩ := Int.eq_ofNat_of_zero_le r70
      have hr5 : rn < ws.length := by omega
      refine ⟨wl, _, _, _, rfl, rfl, SqL.of hwl7, at_of hrn (by rw [List.getElem?_map, List.getElem?_eq_getElem hr5]; rfl), d, a, ns, _, rfl, hws _ (List.getElem_mem hr5), D7, S7, fun x H8 dd ew hok hx hx8 D8 b78 => ?_⟩
      have S8 := D7.seq b78 S7
      -- the hand
      refine ⟨_, rfl, _, rfl, d, a, ns, m, rfl, D8, S8, by omega, by omega, fun r9 H9 r90 r91 D9 o9 => ?_⟩
      have b89 := Sd.eqBut o9
      have S9 := D8.seq b89 S8
      have hx9 := D8.tu b89 _ _ hx8
      refine ⟨_, rfl, x, _, _, _, rfl, rfl, SqT.of hx9, dd.at0, rfl, .inr ⟨_, rfl, _, _, rfl, rfl, .inr (Sd.b01 _), ?_⟩⟩
      obtain ⟨hn, hhn, hlt⟩ : ∃ hn : Nat, r9 * (if (!decide (V.str dd.word = V.str "take")) = true then 1 else 0) = (hn : Int) ∧ hn < m := by
        obtain ⟨rn2, rfl⟩ := Int.eq_ofNat_of_zero_le r90
        cases (!decide (V.str dd.word = V.str "take"))
        · exact ⟨0, by rw [if_neg Bool.false_ne_true, Int.mul_zero]; rfl, by omega⟩
        · exact ⟨rn2, by rw [if_pos rfl, Int.mul_one], by omega⟩
      dsimp only
      rw [hhn]
      -- the moment
      refine ⟨_, rfl, _, rfl, _, _, rfl, rfl, .inl ⟨by omega, by omega⟩, _, _, rfl, rfl, ?_⟩
      obtain ⟨mo, hmo⟩ : ∃ mo : Nat, (ap : Int) * ((0 : Int) + (j : Nat)) + 5 = (mo : Int) := ⟨ap * j + 5, by rw [Int.zero_add, Int.natCast_add, Int.natCast_mul]; rfl⟩
      dsimp only
      rw [hmo]
      refine ⟨_, rfl, _, rfl, _, rfl, _, _, rfl, rfl, .inl ⟨by decide, by decide⟩, _, _, rfl, rfl, d, a, ns, _, rfl, D9, S9, by omega, by omega, fun rb Hb rb0 rb1 Db ob => ?_⟩
      have b9b := Sd.eqBut ob
      have Sb := D9.seq b9b S9
      refine ⟨_, _, rfl, rfl, _, _, rfl, ?_⟩
      obtain ⟨be, hbe⟩ : ∃ be : Nat, (if (mo : Int) - rb > 0 then (mo : Int) - rb else 0) = (be : Int) := Int.eq_ofNat_of_zero_le (by split <;> omega)
      dsimp only
      rw [hbe]
      -- the record
      have bAll : Sd.But d H6 Hb := ((b67.trans b78).trans b89).trans b9b
      have Rb := R6.off (Sd.Off.but' bAll) (fun mm => nfd (List.mem_singleton.mp mm)) (D6.tu bAll)
      obtain ⟨vsb, hfb, hpb⟩ := id Rb.ls
      refine ⟨_, rfl, .inl ⟨rfl, _, SqL.of hfb⟩, ?_⟩
      refine ⟨_, rfl, _, rfl, _, rfl, _, rfl, _, rfl, _, rfl, _, _, rfl, rfl, .inl ⟨by decide, by decide⟩, _, _, rfl, rfl, d, a, ns, _, rfl, Db, Sb, by omega, by omega, fun rc Hc rc0 rc1 Dc oc => ?_⟩
      have bbc := Sd.eqBut oc
      have Sc := Db.seq bbc Sb
      refine ⟨_, _, rfl, rfl, ?_⟩
      obtain ⟨fi, hfi⟩ : ∃ fi : Nat, (mo : Int) + rc = (fi : Int) := Int.eq_ofNat_of_zero_le (by omega)
      dsimp only
      rw [hfi]
      have bAc := bAll.trans bbc
      have Lc := L6.off (Sd.Off.but' bAc) dL
      have hxc := (D9.tu b9b).trans (Db.tu bbc) _ _ hx9
      refine ⟨_, rfl, _, rfl, _, rfl, pd, a1, a2, a3, a4, x, s, hn, m, dd, rfl, Lc, hxc, ok6, hm1, hlt, hok, by omega, fun u Hd hu Ld od => ?_⟩
      have td : Sd.Tu Hc Hd := Sd.Tu.off od Lc.noTup
      refine ⟨(by show 5 ≤ sizeLine; decide), fun t ht => ?_⟩
      have se := Sd.Same.new (o := .tup [.int hn, .ref x, .int be, .int fi, u]) ht
      have ce : upd Hd t (.tup [.int hn, .ref x, .int be, .int fi, u]) t = some (.tup [.int hn, .ref x, .int be, .int fi, u]) := upd_same
      generalize upd Hd t (.tup [.int hn, .ref x, .int be, .int fi, u]) = He at se ce ⊢
      have Rc := Rb.off (Sd.Off.but' bbc) (fun mm => nfd (List.mem_singleton.mp mm)) (Db.tu bbc)
      have Rd := Rc.off od flF td
      have Re := Rd.off (F := []) (Sd.Off.of_same se) (by simp) (Sd.Tu.same se)
      obtain ⟨vse, hfe, hpe⟩ := id Re.ls
      have evs : vse = vsb := by
        have h1 := bbc _ _ nfd hfb
        have h2 := se _ _ (od _ _ flF h1)
        rw [hfe] at h2
        cases h2
        rfl
      subst evs
      refine ⟨fl, _, _, rfl, rfl, hfe, by rw [Sd.Paired.len hpe, rl6]; exact Nat.lt_of_le_of_lt (by omega : j ≤ 100000) (by decide), ?_⟩
      have of_ : Sd.Off [fl] He (upd He fl (.lst (vse ++ [.ref t]))) := Sd.Off.upd (List.mem_singleton.mpr rfl)
      have tf : Sd.Tu He (upd He fl (.lst (vse ++ [.ref t]))) := Sd.Tu.upd fun xs e => by
        rw [hfe] at e
        cases e
      have hxe := (Sd.Tu.same se) _ _ (td _ _ hxc)
      have Dd : Sd.Dice Hd d a := by
        obtain ⟨e1, e2, e3, hd⟩ := Dc
        exact ⟨e1, e2, e3, od _ _ dF hd⟩
      have fFH : ∀ y ∈ [pd, a1, a2, a3, a4], H y = none := fF
      have bcd : ∀ b o, b ≠ d → H b = some o → Hd b = some o := fun b o n e => od b o (fun mm => by rw [fFH b mm] at e; cases e) ((b6.trans bAc) b o n e)
      refine ⟨s.behind hn dd, recs ++ [⟨hn, dd, be, fi, s.ans dd⟩], _, _, _, _, _, rfl, ?_, ok6.behind hok (by omega), Nat.le_trans (s.len_behind _ _) (by omega), (Dd.same se).but (d := d) (e := fl) Sd.But.upd nfd.symm, ?_, ?_, ⟨⟨vse ++ [.ref t], upd_same, ?_⟩, ?_, ?_⟩, by rw [List.length_append, rl6]; rfl⟩
      · exact (Ld.off (F := []) (Sd.Off.of_same se) (by simp)).off of_ (fun y hy mm => flF (by rw [← List.mem_singleton.mp mm]; exact hy))
      · refine Sd.SqL.other hS fH (se.seq ?_) Sd.But.upd
        have sc : SqL K Hc a (ns.map V.int) := Sc
        rcases hS with hS' | hS'
        · have na : a ∉ [pd, a1, a2, a3, a4] := by
            rcases hS' with h | ⟨o, h⟩
            · exact Sd.free_ne fFH h
            · exact Sd.free_ne fFH h
          rcases sc with (h | ⟨o, h⟩) | h
          · exact .inl (.inl (od _ _ na h))
          · exact .inl (.inr ⟨o, od _ _ na h⟩)
          · exact .inr h
        · exact .inr hS'
      · intro b o n e
        rw [upd_ne (ne_of_none e fH)]
        exact se _ _ (bcd b o n e)
      · exact Sd.Paired.app (Sd.Paired.mapM hpe fun y _ z e => e.tu tf) ⟨t, x, u, rfl, tf _ _ ce, tf _ _ hxe, hu.tu ((Sd.Tu.same se).trans tf)⟩
      · intro y hy
        rcases List.mem_append.mp hy with hy | hy
        · exact R6.ok y hy
        · rw [List.mem_singleton.mp hy]
          exact ⟨hlt, hok⟩
      · rw [List.length_append, rl6]
        show j + 1 ≤ 9000
        omega
    · rintro σ H6 ⟨s, recs, v7, v8, v9, v10, v11, rfl, L6, ok6, ln6, D6, S6, b6, R6, rl6⟩
      exact ⟨_, rfl, q fl recs H6 R6 (by omega) fH D6 S6 b6⟩
end

section
variable {P : Program} {w : World} {K : PySem.W.Frag} {mg : Str → Option Value} {base : Heap} 
abbrev N_l_words : List Str := []
theorem sc_l_words : FnScope N_l_words [] (defScope s_l_words) := ⟨rfl, rfl, rfl, by decide +kernel, rfl, by decide +kernel, by decide +kernel⟩
theorem ok_l_words {f : Addr} {fd : FuncData} (F : Fun K "_law_words" "_law_words" s_l_words f fd) (T : (Txt K mg))
    : FnOk P w K mg base CX0 1 f fd [] (Sd.spWords) := by
  refine F.ok sc_l_words (fun vs H Q E h => ?_) (fun cdv A outer s H vs Q E hr h => ?_)
  · obtain ⟨rfl, _⟩ := h
    rfl
  · obtain ⟨rfl, q⟩ := h
    refine ⟨_, (pss_one (ps_ret (pe_lst (pa_cons pe_str (pa_cons pe_str (pa_cons pe_str (pa_cons pe_str (pa_cons pe_str (pa_cons pe_str (pa_cons pe_str (pa_cons pe_str (pa_cons pe_str (pa_cons pe_str pa_nil))))))))))))), ?_⟩
    exact ⟨(by show 10 ≤ sizeLine; decide), fun p hp => q p _ hp (Sd.Same.new hp) upd_same⟩
abbrev N_l_spoiled_order : List Str := ["_law_d", "_law_order", "_law_way", "_law_one", "_law_other"]
theorem sc_l_spoiled_order : FnScope N_l_spoiled_order ["_law_d", "_law_order"] (defScope s_l_spoiled_order) := ⟨rfl, rfl, rfl, by decide +kernel, rfl, by decide +kernel, by decide +kernel⟩
theorem ok_l_spoiled_order {f : Addr} {fd : FuncData} (F : Fun K "_law_spoiled_order" "_law_spoiled_order" s_l_spoiled_order f fd) (T : (Txt K mg))
    (C_l_off : Sd.Cal P w K mg base CX0 2 "_law_off" ["_law_d", "_law_most"] (Sd.spOff K))
    : FnOk P w K mg base CX0 3 f fd ["_law_d", "_law_order"] (Sd.spSpoiled K) := by
  refine F.ok sc_l_spoiled_order (fun vs H Q E h => ?_) (fun cdv A outer s H vs Q E hr h => ?_)
  · obtain ⟨d, a, ol, ns, order, H0, rfl, _⟩ := h
    rfl
  · obtain ⟨d, a, ol, ns, order, H0, rfl, D, hS, hS0, fol, hol, nol, hl, q⟩ := h
    refine ⟨_, (pss_cons (ps_set (i := 2) sc_l_spoiled_order.nd rfl (Or.inl rfl) (Sd.pe_fn C_l_off (hr.mono (by decide)) pass0 (pa_cons (pv 0) (pa_cons pe_int pa_nil))))
      (pss_cons (ps_if (pt_cmpR op_eq (pv 2) pe_int (nomark _))
      (pss_one (ps_ret (pe_op op_cat (pv 1) (pe_lst (pa_cons (pe_op op_sub (pe_op op_add (Sd.pe_fn C_l_off (hr.mono (by decide)) pass0 (pa_cons (pv 0) (pa_cons pe_int pa_nil))) (pe_callB call_len_seq (by rfl) T.len (by decide +kernel) (pa_cons (pv 1) pa_nil))) pe_int) pa_nil)))))
      pss_nil)
      (pss_cons (ps_if (pt_cmpR op_eq (pv 2) pe_int (nomark _))
      (pss_one (ps_ret (pe_slice sl_list (pv 1) (po_some pe_int) po_none)))
      pss_nil)
      (pss_cons (ps_if (pt_cmpR op_eq (pv 2) pe_int (nomark _))
      (pss_one (ps_ret (pe_op op_cat (pe_lst (pa_cons (pe_un un_neg pe_int) pa_nil)) (pe_slice sl_list (pv 1) (po_some pe_int) po_none))))
      pss_nil)
      (pss_cons (ps_if (pt_cmpR op_eq (pv 2) pe_int (nomark _))
      (pss_one (ps_ret (Sd.pe_listRev rfl rfl T.list rfl T.reversed (pv 1))))
      pss_nil)
      (C8.pss_cut (ps_if (PW.pt (pw_and (pt_cmpR op_lt (pv 2) pe_int (nomark _)) (pw_and1 (pt_cmpR (op_neD hr.units) (pv 1) (pe_lst pa_nil) (nomark _)))))
      (pss_cons (ps_set (i := 3) sc_l_spoiled_order.nd rfl (Or.inl rfl) (Sd.pe_fn C_l_off (hr.mono (by decide)) pass0 (pa_cons (pv 0) (pa_cons (pe_callB call_len_seq (by rfl) T.len (by decide +kernel) (pa_cons (pv 1) pa_nil)) pa_nil))))
      (pss_cons (ps_set (i := 4) sc_l_spoiled_order.nd rfl (Or.inl rfl) (Sd.pe_fn C_l_off (hr.mono (by decide)) pass0 (pa_cons (pv 0) (pa_cons (pe_callB call_len_seq (by rfl) T.len (by decide +kernel) (pa_cons (pv 1) pa_nil)) pa_nil))))
      (pss_one (ps_asg (pe_tup (pa_cons (pe_ix ix_list (pv 1) (pv 4) (fun _ _ => rfl)) (pa_cons (pe_ix ix_list (pv 1) (pv 3) (fun _ _ => rfl)) pa_nil))) (pg_tup (by rfl) (pgs_cons (pg_sub (pv 1) (pv 3) set_list) (pgs_cons (pg_sub (pv 1) (pv 4) set_list) pgs_nil)))))))
      pss_nil)
      (pss_one (ps_ret (pv 1))))))))), ?_⟩
    refine ⟨_, rfl, d, a, ns, 8, rfl, D, hS, by decide, by decide, fun r H1 r0 r1 D1 o1 => ?_⟩
    have b1 := Sd.eqBut o1
    have S1 := D.seq b1 hS
    have c1 := b1 _ _ nol hol
    have of1 : Sd.Off [d, ol] H H1 := fun c u n e => b1 c u (fun z => n (by rw [z]; exact List.mem_cons_self)) e
    have tu1 := D.tu b1
    have inO : ∀ {H' : Hp}, (∀ b, b ≠ d → H' b = H1 b) → Sd.Off [d, ol] H1 H' := fun o c u n e => by
      rw [o c (fun z => n (by rw [z]; exact List.mem_cons_self))]
      exact e
    refine ⟨_, rfl, rfl, _, rfl, ?_⟩
    refine ite2 (fun c => ?_) (fun c => ?_)
    · refine ⟨_, rfl, _, rfl, d, a, ns, 3, rfl, D1, S1, by decide, by decide, fun r2 H2 r20 r21 D2 o2 => ?_⟩
      have b2 := Sd.eqBut o2
      have c2 := b2 _ _ nol c1
      refine ⟨_, rfl, ol, _, rfl, .inl (SqL.of c2), _, _, rfl, rfl, _, _, rfl, rfl, ?_⟩
      refine ⟨(by show 1 ≤ sizeLine; decide), fun l hl => ?_⟩
      have s3 := Sd.Same.new (o := .lst [.int (r2 + (((order.map V.int).length : Nat) : Int) - 1)]) hl
      have tu2 := D1.tu b2
      refine ⟨ol, l, _, _, rfl, rfl, s3 _ _ c2, upd_same, Nat.le_trans (by rw [List.length_map]; show order.length + 1 ≤ 101; omega) (by decide : 101 ≤ sizeLine), fun p hp => ?_⟩
      have s4 := Sd.Same.new (o := .lst (order.map V.int ++ [.int (r2 + (((order.map V.int).length : Nat) : Int) - 1)])) hp
      exact q p (order ++ [_]) _ (by rw [List.map_append]; exact upd_same) (of1.trans ((inO o2).trans (Sd.Off.of_same (s3.trans s4)))) (tu1.trans (tu2.trans (Sd.Tu.same (s3.trans s4))))
    refine ⟨_, rfl, rfl, _, rfl, ?_⟩
    refine ite2 (fun c => ?_) (fun c => ?_)
    · exact ⟨_, rfl, _, rfl, ol, _, rfl, SqL.of c1, fun l hl => q l (order.drop 1) _ (by rw [upd_same, show (some (1 : Int)) = some ((1 : Nat) : Int) from rfl, Sd.cut_drop, List.map_drop]) (of1.trans (Sd.Off.of_same (Sd.Same.new hl))) (tu1.trans (Sd.Tu.same (Sd.Same.new hl)))⟩
    refine ⟨_, rfl, rfl, _, rfl, ?_⟩
    refine ite2 (fun c => ?_) (fun c => ?_)
    · refine ⟨_, rfl, (by show 1 ≤ sizeLine; decide), fun l hl => ?_⟩
      have s3 := Sd.Same.new (o := .lst [.int (-1)]) hl
      refine ⟨_, rfl, _, rfl, ol, _, rfl, SqL.of (s3 _ _ c1), fun l2 hl2 => ?_⟩
      rw [show (some (1 : Int)) = some ((1 : Nat) : Int) from rfl, Sd.cut_drop, ← List.map_drop]
      have s4 := Sd.Same.new (o := .lst ((order.drop 1).map V.int)) hl2
      refine ⟨l, l2, _, _, rfl, rfl, s4 _ _ upd_same, upd_same, Nat.le_trans (by rw [List.length_map, List.length_drop]; show 1 + _ ≤ 101; omega) (by decide : 101 ≤ sizeLine), fun p hp => ?_⟩
      have s5 := Sd.Same.new (o := .lst ([V.int (-1)] ++ (order.drop 1).map V.int)) hp
      exact q p ([-1] ++ order.drop 1) _ (by rw [List.map_append]; exact upd_same) (of1.trans (Sd.Off.of_same ((s3.trans s4).trans s5))) (tu1.trans (Sd.Tu.same ((s3.trans s4).trans s5)))
    refine ⟨_, rfl, rfl, _, rfl, ?_⟩
    refine ite2 (fun c => ?_) (fun c => ?_)
    · exact ⟨_, rfl, ol, _, rfl, SqL.of c1, fun l hl => q l _ _ (by rw [← List.map_reverse]; exact upd_same) (of1.trans (Sd.Off.of_same (Sd.Same.new hl))) (tu1.trans (Sd.Tu.same (Sd.Same.new hl)))⟩
    have done : ∀ (order' : List Int) H', H' ol = some (.lst (order'.map V.int)) → Sd.Off [d, ol] H1 H' → Sd.Tu H1 H' → Q (V.ref ol) H' := fun order' H' h1 h2 h3 => q ol order' H' h1 (of1.trans h2) (tu1.trans h3)
    refine ⟨fun σ' H' => ∃ (v2 v3 v4 : Option V) (order' : List Int), σ' = [some (.ref d), some (.ref ol), v2, v3, v4] ∧ H' ol = some (.lst (order'.map V.int)) ∧ Sd.Off [d, ol] H1 H' ∧ Sd.Tu H1 H', ?_, ?_⟩
    · refine ⟨_, rfl, _, _, rfl, rfl, _, rfl, ?_⟩
      refine ite2 (fun c => ?_) (fun c => ?_)
      case refine_2 => exact ⟨_, _, _, order, rfl, c1, Sd.Off.refl _ _, Sd.Tu.refl _⟩
      refine ⟨_, rfl, (by show 0 ≤ sizeLine; decide), fun e0 he0 => ?_⟩
      have s2 := Sd.Same.new (o := .lst []) he0
      have ce : upd H1 e0 (.lst []) e0 = some (.lst []) := upd_same
      generalize upd H1 e0 (.lst []) = H2 at s2 ce ⊢
      have c2 := s2 _ _ c1
      refine ⟨Sd.dInts order, _, Sd.dInts_dp (SqL.of c2), .lst (SqL.of ce) .nil, Sd.dInts_shaped _, rfl, _, rfl, ?_⟩
      rw [Sd.dInts_nil]
      cases ho : decide (order = []) with
      | true => exact ⟨_, _, _, order, rfl, c2, Sd.Off.of_same s2, Sd.Tu.same s2⟩
      | false =>
        have hpos : 0 < order.length := List.length_pos_iff.mpr (of_decide_eq_false ho)
        have D2 := D1.same s2
        have S2 := s2.seq S1
        refine ⟨_, rfl, _, rfl, ol, _, rfl, .inl (SqL.of c2), d, a, ns, _, rfl, D2, S2, by rw [List.length_map]; omega, by rw [List.length_map]; omega, fun r3 H3 r30 r31 D3 o3 => ?_⟩
        rw [List.length_map] at r31
        have b3 := Sd.eqBut o3
        have c3 := b3 _ _ nol c2
        have S3 := D2.seq b3 S2
        refine ⟨_, rfl, _, rfl, ol, _, rfl, .inl (SqL.of c3), d, a, ns, _, rfl, D3, S3, by rw [List.length_map]; omega, by rw [List.length_map]; omega, fun r4 H4 r40 r41 D4 o4 => ?_⟩
        rw [List.length_map] at r41
        have b4 := Sd.eqBut o4
        have c4 := b4 _ _ nol c3
        obtain ⟨i3, rfl⟩ := Int.eq_ofNat_of_zero_le r30
        obtain ⟨i4, rfl⟩ := Int.eq_ofNat_of_zero_le r40
        have h3 : i3 < order.length := by omega
        have h4 : i4 < order.length := by omega
        have g3 : (order.map V.int)[i3]? = some (.int order[i3]) := by rw [List.getElem?_map, List.getElem?_eq_getElem h3]; rfl
        have g4 : (order.map V.int)[i4]? = some (.int order[i4]) := by rw [List.getElem?_map, List.getElem?_eq_getElem h4]; rfl
        refine ⟨_, rfl, _, rfl, ol, _, _, _, rfl, rfl, SqL.of c4, atI_nat g4, _, rfl, _, rfl, ol, _, _, _, rfl, rfl, SqL.of c4, atI_nat g3, (by show 2 ≤ sizeLine; decide), fun t ht => ?_⟩
        generalize order[i4] = x4
        generalize order[i3] = x3
        have s5 := Sd.Same.new (o := .tup [.int x4, .int x3]) ht
        have c5 := s5 _ _ c4
        have ct : upd H4 t (.tup [.int x4, .int x3]) t = some (.tup [.int x4, .int x3]) := upd_same
        generalize upd H4 t (.tup [.int x4, .int x3]) = H5 at s5 c5 ct ⊢
        have tol : ol ≠ t := by
          intro z
          rw [z, ct] at c5
          cases c5
        refine ⟨t, _, rfl, SqT.of ct, rfl, _, _, rfl, _, rfl, _, rfl, ol, _, _, i3, rfl, rfl, c5, Sd.ixN_nat (by rw [List.length_map]; exact h3), ?_⟩
        rw [Sd.ints_set]
        have c6 : upd H5 ol (.lst ((order.set i3 x4).map V.int)) ol = some (.lst ((order.set i3 x4).map V.int)) := upd_same
        have of6 : Sd.Off [d, ol] H5 (upd H5 ol (.lst ((order.set i3 x4).map V.int))) := Sd.Off.upd (by simp)
        have tu6 : Sd.Tu H5 (upd H5 ol (.lst ((order.set i3 x4).map V.int))) := Sd.Tu.upd fun xs e => by rw [c5] at e; cases e
        generalize upd H5 ol (.lst ((order.set i3 x4).map V.int)) = H6 at c6 of6 tu6 ⊢
        refine ⟨_, _, rfl, _, rfl, _, rfl, ol, _, _, i4, rfl, rfl, c6, Sd.ixN_nat (by rw [List.length_map, List.length_set]; exact h4), ?_⟩
        rw [Sd.ints_set]
        have of7 : Sd.Off [d, ol] H6 (upd H6 ol (.lst (((order.set i3 x4).set i4 x3).map V.int))) := Sd.Off.upd (by simp)
        have tu7 : Sd.Tu H6 (upd H6 ol (.lst (((order.set i3 x4).set i4 x3).map V.int))) := Sd.Tu.upd fun xs e => by rw [c6] at e; cases e
        refine ⟨rfl, _, _, _, _, rfl, upd_same, ?_, ?_⟩
        · exact (((((Sd.Off.of_same s2).trans (fun c u n e => b3 c u (fun z => n (by rw [z]; exact List.mem_cons_self)) e)).trans (fun c u n e => b4 c u (fun z => n (by rw [z]; exact List.mem_cons_self)) e)).trans (Sd.Off.of_same s5)).trans of6).trans of7
        · exact (((((Sd.Tu.same s2).trans (D2.tu b3)).trans (D3.tu b4)).trans (Sd.Tu.same s5)).trans tu6).trans tu7
    · rintro σ' H' ⟨v2, v3, v4, order', rfl, h1, h2, h3⟩
      exact ⟨_, rfl, done order' H' h1 h2 h3⟩
end

section
variable {P : Program} {w : World} {K : PySem.W.Frag} {mg : Str → Option Value} {base : Heap} 
abbrev N_law : List Str := ["_law_script", "_law_many", "_law_words_here", "_law_records", "_law_d", "_law_at", "_law_odd", "_law_order", "_law_handed", "_law_found"]
theorem sc_law : FnScope N_law ["_law_script"] (defScope s_law) := ⟨rfl, rfl, rfl, by decide +kernel, rfl, by decide +kernel, by decide +kernel⟩
theorem ok_law {f : Addr} {fd : FuncData} (F : Fun K "law" "law" s_law f fd) (T : (Txt K mg))
    (C_l_cell : Sd.Cal P w K mg base CX0 1 "_law_cell" ["_law_script", "_law_k"] (Sd.spCell K))
    (C_l_dice : Sd.Cal P w K mg base CX0 2 "_law_dice" ["_law_script", "_law_k"] (Sd.spDice K))
    (C_l_off : Sd.Cal P w K mg base CX0 2 "_law_off" ["_law_d", "_law_most"] (Sd.spOff K))
    (C_l_words : Sd.Cal P w K mg base CX0 1 "_law_words" [] (Sd.spWords))
    (C_l_history : Sd.Cal P w K mg base CX0 4 "_law_history" ["_law_d", "_law_many", "_law_words_here", "_law_most"] (Sd.spHistory K))
    (C_l_spoiled_order : Sd.Cal P w K mg base CX0 3 "_law_spoiled_order" ["_law_d", "_law_order"] (Sd.spSpoiled K))
    (C_keeps : Sd.Cal P w K mg base CX0 2 "keeps" ["records", "order", "many"] (Sd.spKeepsM))
    (C_l_keeps : Sd.Cal P w K mg base CX0 2 "_law_keeps" ["_law_records", "_law_order", "_law_many"] (Sd.spKeepsM))
    : FnOk P w K mg base CX0 5 f fd ["_law_script"] (spLaw K) := by
  refine F.ok sc_law (fun vs H Q E h => ?_) (fun cdv A outer s H vs Q E hr h => ?_)
  · obtain ⟨a, ns, rfl, _⟩ := h
    rfl
  · obtain ⟨a, ns, rfl, hS, hlen, q⟩ := h
    refine ⟨_, (pss_cons (ps_set (i := 1) sc_law.nd rfl (Or.inl rfl) (pe_op op_add pe_int (pe_op op_mod (pe_callB call_abs (by rfl) T.abs (by decide +kernel) (pa_cons (Sd.pe_fn C_l_cell (hr.mono (by decide)) pass0 (pa_cons (pv 0) (pa_cons pe_int pa_nil))) pa_nil)) pe_int)))
      (pss_cons (ps_set (i := 2) sc_law.nd rfl (Or.inl rfl) (pe_ix ix_list (pe_lst (pa_cons (Sd.pe_fn0 C_l_words (hr.mono (by decide)) pass0) (pa_cons (pe_lst (pa_cons pe_str (pa_cons pe_str (pa_cons pe_str (pa_cons pe_str pa_nil))))) pa_nil))) (pe_op op_mod (pe_callB call_abs (by rfl) T.abs (by decide +kernel) (pa_cons (Sd.pe_fn C_l_cell (hr.mono (by decide)) pass0 (pa_cons (pv 0) (pa_cons pe_int pa_nil))) pa_nil)) pe_int) (fun _ _ => rfl)))
      (pss_cons (ps_set (i := 3) sc_law.nd rfl (Or.inl rfl) (Sd.pe_fn C_l_history (hr.mono (by decide)) pass0 (pa_cons (Sd.pe_fn C_l_dice (hr.mono (by decide)) pass0 (pa_cons (pv 0) (pa_cons pe_int pa_nil))) (pa_cons (pv 1) (pa_cons (pv 2) (pa_cons pe_int pa_nil))))))
      (pss_cons (ps_set (i := 4) sc_law.nd rfl (Or.inl rfl) (Sd.pe_fn C_l_dice (hr.mono (by decide)) pass0 (pa_cons (pv 0) (pa_cons pe_int pa_nil))))
      (C8.pss_cut (ps_if (PW.pt (pw_and (pt_cmpR (op_neD hr.units) (pv 3) (pe_lst pa_nil) (nomark _)) (pw_and1 (pt_cmpR op_eq (Sd.pe_fn C_l_off (hr.mono (by decide)) pass0 (pa_cons (pv 4) (pa_cons pe_int pa_nil))) pe_int (nomark _)))))
      (pss_cons (ps_set (i := 5) sc_law.nd rfl (Or.inl rfl) (Sd.pe_fn C_l_off (hr.mono (by decide)) pass0 (pa_cons (pv 4) (pa_cons (pe_callB call_len_seq (by rfl) T.len (by decide +kernel) (pa_cons (pv 3) pa_nil)) pa_nil))))
      (pss_cons (ps_set (i := 6) sc_law.nd rfl (Or.inl rfl) (pe_ix ix_list (pe_lst (pa_cons pe_non (pa_cons pe_int (pa_cons pe_int (pa_cons (pe_op Sd.op_repT1 (pe_tup (pa_cons pe_int pa_nil)) (pv 1)) (pa_cons pe_int pa_nil)))))) (Sd.pe_fn C_l_off (hr.mono (by decide)) pass0 (pa_cons (pv 4) (pa_cons pe_int pa_nil))) (fun _ _ => rfl)))
      (pss_one (ps_asg (pe_op op_catA (pe_slice sl_tupA (pe_ix ix_list (pv 3) (pv 5) (fun _ _ => rfl)) po_none (po_some pe_int)) (pe_tup (pa_cons (pv 6) pa_nil))) (pg_sub (pv 3) (pv 5) set_list)))))
      pss_nil)
      (pss_cons (ps_set (i := 7) sc_law.nd rfl (Or.inl rfl) (Sd.pe_fn C_l_spoiled_order (hr.mono (by decide)) pass0 (pa_cons (pv 4) (pa_cons (pe_listRg rfl rfl T.list (prg_1 rfl T.range (pe_callB call_len_seq (by rfl) T.len (by decide +kernel) (pa_cons (pv 3) pa_nil)))) pa_nil))))
      (pss_cons (ps_set (i := 8) sc_law.nd rfl (Or.inl rfl) (pe_lst (pa_cons (pe_callTy call_list_of (by rfl) T.list (by decide +kernel) (pa_cons (pv 3) pa_nil)) (pa_cons (pe_callTy call_list_of (by rfl) T.list (by decide +kernel) (pa_cons (pv 7) pa_nil)) pa_nil))))
      (pss_cons (ps_set (i := 9) sc_law.nd rfl (Or.inl rfl) (Sd.pe_fn C_keeps (hr.mono (by decide)) pass0 (pa_cons (pe_ix ix_list (pv 8) pe_int (fun _ _ => rfl)) (pa_cons (pe_ix ix_list (pv 8) pe_int (fun _ _ => rfl)) (pa_cons (pv 1) pa_nil)))))
      (pss_cons (ps_if (PW.pt (pw_or (pt_not (pt_val (pe_callB call_isi (by rfl) T.isinstance (by decide +kernel) (pa_cons (pv 9) (pa_cons (pe_bltn (v := .ty "bool") (u := .type "bool") (by rfl) T.bool (by decide +kernel) rfl) pa_nil))))) (pw_or1 (pt_cmpR (op_neD hr.units) (pv 8) (pe_lst (pa_cons (pv 3) (pa_cons (pv 7) pa_nil))) (nomark _)))))
      (pss_one (ps_ret pe_bl))
      pss_nil)
      (pss_one (ps_ret (pe_cmpR op_eq (pv 9) (Sd.pe_fn C_l_keeps (hr.mono (by decide)) pass0 (pa_cons (pv 3) (pa_cons (pv 7) (pa_cons (pv 1) pa_nil)))) (nomark _))))))))))))), ?_⟩
    refine ⟨_, rfl, a, ns, 0, rfl, by decide, hS, fun v => ⟨v, rfl, _, _, rfl, rfl, (by show (0 : Int) < 4; decide), _, _, rfl, rfl, ?_⟩⟩
    dsimp only
    have hN0 : 0 ≤ (if v < 0 then -v else v) % 4 := Int.emod_nonneg _ (by decide)
    have hN1 : (if v < 0 then -v else v) % 4 < 4 := Int.emod_lt_of_pos _ (by decide)
    obtain ⟨m, hm⟩ := Int.eq_ofNat_of_zero_le (show 0 ≤ 1 + (if v < 0 then -v else v) % 4 by omega)
    rw [hm]
    have m1 : 1 ≤ m := by omega
    have m4 : m ≤ 4 := by omega
    -- which words
    refine ⟨rfl, fun wl H1 hwl s1 c1 => ?_⟩
    refine ⟨(by show 4 ≤ sizeLine; decide), fun w4 hw4 => ?_⟩
    have s2 := Sd.Same.new (o := .lst [.str "one", .str "count", .str "give", .str "take"]) hw4
    have c2 : upd H1 w4 (.lst [.str "one", .str "count", .str "give", .str "take"]) w4 = some (.lst [.str "one", .str "count", .str "give", .str "take"]) := upd_same
    generalize upd H1 w4 (.lst [.str "one", .str "count", .str "give", .str "take"]) = H2 at s2 c2 ⊢
    refine ⟨(by show 2 ≤ sizeLine; decide), fun ll hll => ?_⟩
    have s3 := Sd.Same.new (o := .lst [.ref wl, .ref w4]) hll
    have c3 : upd H2 ll (.lst [.ref wl, .ref w4]) ll = some (.lst [.ref wl, .ref w4]) := upd_same
    generalize upd H2 ll (.lst [.ref wl, .ref w4]) = H3 at s3 c3 ⊢
    have S3 := ((s1.trans s2).trans s3).seq hS
    refine ⟨_, rfl, a, ns, 1, rfl, by decide, S3, fun v1 => ⟨v1, rfl, _, _, rfl, rfl, (by show (0 : Int) < 2; decide), ?_⟩⟩
    dsimp only
    obtain ⟨wa, ws, hat, hwa, hwf, hws, hw0, hw1⟩ : ∃ (wa : Addr) (ws : List Str), atI [V.ref wl, V.ref w4] ((if v1 < 0 then -v1 else v1) % 2) = some (.ref wa) ∧ H3 wa = some (.lst (ws.map V.str)) ∧ H wa = none ∧ (∀ w ∈ ws, w ∈ Sd.words10) ∧ 0 < ws.length ∧ ws.length ≤ 100 := by
      have h2 : (if v1 < 0 then -v1 else v1) % 2 = 0 ∨ (if v1 < 0 then -v1 else v1) % 2 = 1 := by omega
      rcases h2 with h2 | h2 <;> rw [h2]
      · exact ⟨wl, Sd.words10, atI_nat (j := 0) rfl, (s2.trans s3) _ _ c1, hwl, fun _ h => h, by decide, by decide⟩
      · exact ⟨w4, ["one", "count", "give", "take"], atI_nat (j := 1) rfl, s3 _ _ c2, s1.free hw4, by decide, by decide, by decide⟩
    refine ⟨ll, _, _, _, rfl, rfl, SqL.of c3, hat, ?_⟩
    -- a history
    refine ⟨_, rfl, a, ns, 2, rfl, by decide, S3, fun d2 H4 hd2 s4 bt4 D4 o4 => ?_⟩
    have S4 := s4.seq S3
    have hwa4 := s4 _ _ hwa
    refine ⟨_, rfl, _, rfl, d2, a, wa, ns, ws, m, 8, rfl, D4, S4, hwa4, (ne_of_none hwa hd2), hws, hw0, hw1, m1, by omega, by decide, fun fl recs H5 R5 l5 hfl D5 S5 b5 => ?_⟩
    have s14 := (((s1.trans s2).trans s3).trans s4)
    have fH : H fl = none := s14.free hfl
    refine ⟨_, rfl, a, ns, 3, rfl, by decide, S5, fun d H6 hd s6 bt6 D6 o6 => ?_⟩
    have S6 := s6.seq S5
    have R6 := R5.off (F := []) (Sd.Off.of_same s6) (by simp) (Sd.Tu.same s6)
    have nfd : fl ≠ d := by
      obtain ⟨vs, e, _⟩ := R5.ls
      exact ne_of_none e hd
    refine ⟨fun σ' H' => ∃ (v5 v6 v7 v8 v9 : Option V) (recs' : List Sd.Rec), σ' = [some (.ref a), some (.int m), some (.ref wa), some (.ref fl), some (.ref d), v5, v6, v7, v8, v9] ∧ Sd.RecsAt H' fl recs' m ∧ recs'.length ≤ 8 ∧ Sd.Dice H' d a ∧ SqL K H' a (ns.map V.int), ?_, ?_⟩
    · obtain ⟨vs6, hf6, hp6⟩ := id R6.ls
      refine ⟨_, rfl, (by show 0 ≤ sizeLine; decide), fun e0 he0 => ?_⟩
      have s7 := Sd.Same.new (o := .lst []) he0
      have c7 : upd H6 e0 (.lst []) e0 = some (.lst []) := upd_same
      generalize upd H6 e0 (.lst []) = H7 at s7 c7 ⊢
      have R7 := R6.off (F := []) (Sd.Off.of_same s7) (by simp) (Sd.Tu.same s7)
      have hp7 : Paired (Sd.RecAt H7) vs6 recs := Sd.Paired.mapM hp6 fun y _ z e => e.tu (Sd.Tu.same s7)
      have D7 := D6.same s7
      have S7 := s7.seq S6
      refine ⟨Sd.recsD recs, .list [], .lst (SqL.of (s7 _ _ hf6)) (Sd.dp_recs hp7), .lst (SqL.of c7) .nil, Sd.recsD_shaped _, rfl, _, rfl, ?_⟩
      rw [Sd.recsD_nil]
      cases hne : decide (recs = []) with
      | true => exact ⟨_, _, _, _, _, recs, rfl, R7, l5, D7, S7⟩
      | false =>
        have hpos : 0 < recs.length := List.length_pos_iff.mpr (of_decide_eq_false hne)
        refine ⟨_, rfl, d, a, ns, 4, rfl, D7, S7, by decide, by decide, fun r8 H8 r80 r81 D8 o8 => ?_⟩
        have b8 := Sd.eqBut o8
        have S8 := D7.seq b8 S7
        have R8 := R7.off (Sd.Off.but' b8) (fun mm => nfd (List.mem_singleton.mp mm)) (D7.tu b8)
        refine ⟨rfl, _, rfl, ?_⟩
        refine ite2 (fun c => ?_) (fun c => ?_)
        case refine_2 => exact ⟨_, _, _, _, _, recs, rfl, R8, l5, D8, S8⟩
        obtain ⟨vs8, hf8, hp8⟩ := id R8.ls
        have hl8 := Sd.Paired.len hp8
        refine ⟨_, rfl, _, rfl, fl, _, rfl, .inl (SqL.of hf8), d, a, ns, _, rfl, D8, S8, by omega, by omega, fun r9 H9 r90 r91 D9 o9 => ?_⟩
        have b9 := Sd.eqBut o9
        have S9 := D8.seq b9 S8
        have R9 := R8.off (Sd.Off.but' b9) (fun mm => nfd (List.mem_singleton.mp mm)) (D8.tu b9)
        obtain ⟨j, rfl⟩ := Int.eq_ofNat_of_zero_le r90
        have hj : j < recs.length := by omega
        refine ⟨(by show 1 ≤ sizeLine; decide), fun t0 ht0 => ?_⟩
        have sA := Sd.Same.new (o := .tup [.int 0]) ht0
        have cA : upd H9 t0 (.tup [.int 0]) t0 = some (.tup [.int 0]) := upd_same
        generalize upd H9 t0 (.tup [.int 0]) = HA at sA cA ⊢
        refine ⟨_, rfl, Sd.rep_r cA m1 (by omega) fun u HB sB cB => ?_⟩
        refine ⟨(by show 5 ≤ sizeLine; decide), fun ol hol => ?_⟩
        have sC := Sd.Same.new (o := .lst [.non, .int 0, .int 1, .ref u, .int 999]) hol
        have cC : upd HB ol (.lst [.non, .int 0, .int 1, .ref u, .int 999]) ol = some (.lst [.non, .int 0, .int 1, .ref u, .int 999]) := upd_same
        generalize upd HB ol (.lst [.non, .int 0, .int 1, .ref u, .int 999]) = HC at sC cC ⊢
        have s9C := (sA.trans sB).trans sC
        have DC := D9.same s9C
        have SC := s9C.seq S9
        refine ⟨_, rfl, d, a, ns, 5, rfl, DC, SC, by decide, by decide, fun rD HD rD0 rD1 DD oD => ?_⟩
        have bD := Sd.eqBut oD
        have SD := DC.seq bD SC
        have RD := (R9.off (F := []) (Sd.Off.of_same s9C) (by simp) (Sd.Tu.same s9C)).off (Sd.Off.but' bD) (fun mm => nfd (List.mem_singleton.mp mm)) (DC.tu bD)
        have nol : ol ≠ d := (D9.same (sA.trans sB)).ne hol |>.symm
        have cU := DC.tu bD _ _ (sC _ _ cB)
        obtain ⟨ov, oa, hov, hoa⟩ : ∃ (ov : V) (oa : Sd.Ans), atI [V.non, .int 0, .int 1, .ref u, .int 999] rD = some ov ∧ oa.At HD ov := by
          have h5 : rD = 0 ∨ rD = 1 ∨ rD = 2 ∨ rD = 3 ∨ rD = 4 := by omega
          rcases h5 with rfl | rfl | rfl | rfl | rfl
          · exact ⟨.non, .non, atI_nat (j := 0) rfl, rfl⟩
          · exact ⟨.int 0, .int 0, atI_nat (j := 1) rfl, rfl⟩
          · exact ⟨.int 1, .int 1, atI_nat (j := 2) rfl, rfl⟩
          · exact ⟨.ref u, .view (List.replicate m 0), atI_nat (j := 3) rfl, u, rfl, by rw [List.map_replicate]; exact cU⟩
          · exact ⟨.int 999, .int 999, atI_nat (j := 4) rfl, rfl⟩
        refine ⟨ol, _, _, _, rfl, rfl, SqL.of (bD _ _ nol cC), hov, ?_⟩
        have hr : recs[j]? = some recs[j] := List.getElem?_eq_getElem hj
        have hok := RD.ok _ (List.getElem_mem hj)
        generalize recs[j] = r at hr hok
        obtain ⟨vsD, rp, dp, av, h1, h2, h3, h4, h5⟩ := RD.at_ hr
        refine ⟨_, rfl, _, rfl, fl, _, _, _, rfl, rfl, SqL.of h1, h2, _, rfl, Sd.slice_r h3 fun u2 HE sE cE => ?_⟩
        have e4 : cutV [V.int r.hand, .ref dp, .int r.beg, .int r.fin, av] none (some (4 : Int)) = [V.int r.hand, .ref dp, .int r.beg, .int r.fin] := Sd.cut_take (h := 4) (by show 4 ≤ 5; decide)
        rw [e4] at cE
        refine ⟨_, rfl, (by show 1 ≤ sizeLine; decide), fun t2 ht2 => ?_⟩
        have sF := Sd.Same.new (o := .tup [ov]) ht2
        have cF : upd HE t2 (.tup [ov]) t2 = some (.tup [ov]) := upd_same
        generalize upd HE t2 (.tup [ov]) = HF at sF cF ⊢
        refine Sd.cat_r (sF _ _ cE) cF (by show 5 ≤ 1001; decide) fun u3 HG sG cG => ?_
        have sDG := (sE.trans sF).trans sG
        have RG := RD.off (F := []) (Sd.Off.of_same sDG) (by simp) (Sd.Tu.same sDG)
        have hfG := sDG _ _ h1
        have lG : vsD.length = recs.length := by
          obtain ⟨vs', e1, e2⟩ := RG.ls
          rw [hfG] at e1
          cases e1
          exact Sd.Paired.len e2
        refine ⟨_, rfl, _, rfl, fl, _, _, j, rfl, rfl, hfG, Sd.ixN_nat (by omega), ?_⟩
        have ra : Sd.RecAt HG (.ref u3) { r with ans := oa } := ⟨u3, dp, ov, rfl, cG, sDG _ _ h4, hoa.tu (Sd.Tu.same sDG)⟩
        refine ⟨_, _, _, _, _, recs.set j { r with ans := oa }, rfl, RG.set hfG ra ⟨hok.hand, hok.ok⟩, by rw [List.length_set]; exact l5, ?_, ?_⟩
        · exact (DD.same sDG).but (d := d) (e := fl) Sd.But.upd nfd.symm
        · exact Sd.SqL.other hS fH (sDG.seq SD) Sd.But.upd
    rintro σ' H7 ⟨v5, v6, v7, v8, v9, recs', rfl, R7, l7, D7, S7⟩
    obtain ⟨vs7, hf7, hp7⟩ := id R7.ls
    have hl7 := Sd.Paired.len hp7
    refine ⟨_, rfl, _, rfl, fl, _, rfl, .inl (SqL.of hf7), _, rfl, ?_⟩
    rw [hl7]
    refine ⟨RgOk.of_le (by decide) (by omega) (by decide) (by omega), fun rg hrg => ?_⟩
    have s8 := Sd.Same.new (o := .lst (rgV 0 ((recs'.length : Nat) : Int))) hrg
    have erg : rgV 0 ((recs'.length : Nat) : Int) = (Sd.rangeI recs'.length).map V.int := by
      unfold rgV Sd.rangeI
      rw [List.map_map]
      have : ((recs'.length : Nat) : Int) - 0 = ((recs'.length : Nat) : Int) := by omega
      rw [this, Int.toNat_natCast]
      refine List.map_congr_left fun i _ => ?_
      show V.int (0 + (i : Nat)) = V.int (i : Nat)
      rw [Int.zero_add]
    have c8 : upd H7 rg (.lst (rgV 0 ((recs'.length : Nat) : Int))) rg = some (.lst ((Sd.rangeI recs'.length).map V.int)) := by rw [upd_same, erg]
    generalize upd H7 rg (.lst (rgV 0 ((recs'.length : Nat) : Int))) = H8 at s8 c8 ⊢
    have D8 := D7.same s8
    refine ⟨d, a, rg, ns, Sd.rangeI recs'.length, H7, rfl, D8, s8.seq S7, S7, hrg, c8, (D7.ne hrg).symm, by unfold Sd.rangeI; rw [List.length_map, List.length_range]; omega, fun ol order H9 hol o9 t9 => ?_⟩
    have R9 := (R7.off (F := []) (Sd.Off.of_same s8) (by simp) (Sd.Tu.same s8)).off o9 (by
      intro mm
      rcases List.mem_cons.mp mm with z | z
      · exact nfd z
      · exact ne_of_none hf7 hrg (List.mem_singleton.mp z)) t9
    obtain ⟨vs9, hf9, hp9⟩ := id R9.ls
    refine ⟨_, rfl, fl, _, rfl, .inl (SqL.of hf9), fun k1 hk1 => ?_⟩
    have sA := Sd.Same.new (o := .lst vs9) hk1
    have cA : upd H9 k1 (.lst vs9) k1 = some (.lst vs9) := upd_same
    generalize upd H9 k1 (.lst vs9) = HA at sA cA ⊢
    refine ⟨_, rfl, ol, _, rfl, .inl (SqL.of (sA _ _ hol)), fun k2 hk2 => ?_⟩
    have sB := Sd.Same.new (o := .lst (order.map V.int)) hk2
    have cB : upd HA k2 (.lst (order.map V.int)) k2 = some (.lst (order.map V.int)) := upd_same
    generalize upd HA k2 (.lst (order.map V.int)) = HB at sB cB ⊢
    refine ⟨(by show 2 ≤ sizeLine; decide), fun hl hhl => ?_⟩
    have sC := Sd.Same.new (o := .lst [.ref k1, .ref k2]) hhl
    have cC : upd HB hl (.lst [.ref k1, .ref k2]) hl = some (.lst [.ref k1, .ref k2]) := upd_same
    generalize upd HB hl (.lst [.ref k1, .ref k2]) = HC at sC cC ⊢
    have s9C := (sA.trans sB).trans sC
    have RC := R9.off (F := []) (Sd.Off.of_same s9C) (by simp) (Sd.Tu.same s9C)
    have hpC : Paired (Sd.RecAt HC) vs9 recs' := Sd.Paired.mapM hp9 fun y _ z e => e.tu (Sd.Tu.same s9C)
    have RK : Sd.RecsAt HC k1 recs' m := ⟨⟨vs9, (sB.trans sC) _ _ cA, hpC⟩, RC.ok, RC.len⟩
    refine ⟨_, rfl, hl, _, _, _, rfl, rfl, SqL.of cC, atI_nat (j := 0) rfl, _, rfl, hl, _, _, _, rfl, rfl, SqL.of cC, atI_nat (j := 1) rfl, _, rfl, k1, k2, recs', order, m, rfl, RK, sC _ _ cB, m1, by omega, fun HD sD => ?_⟩
    refine ⟨_, rfl, _, _, _, _, true, rfl, .ty _, .base (.bl _), kit_ty (by decide +kernel), true, rfl, ?_⟩
    have hfD := (s9C.trans sD) _ _ hf9
    refine ⟨_, rfl, _, rfl, _, rfl, (by show 2 ≤ sizeLine; decide), fun h2 hh2 => ?_⟩
    have sE := Sd.Same.new (o := .lst [.ref fl, .ref ol]) hh2
    have cE : upd HD h2 (.lst [.ref fl, .ref ol]) h2 = some (.lst [.ref fl, .ref ol]) := upd_same
    generalize upd HD h2 (.lst [.ref fl, .ref ol]) = HE at sE cE ⊢
    have sCE := sD.trans sE
    have hpE : Paired (Sd.RecAt HE) vs9 recs' := Sd.Paired.mapM hpC fun y _ z e => e.tu (Sd.Tu.same sCE)
    have dp1 : Dp K HE (.ref hl) (Sd.handD recs' order) := .lst (SqL.of (sCE _ _ cC)) (.cons (.lst (SqL.of (((sB.trans sC).trans sCE) _ _ cA)) (Sd.dp_recs hpE)) (.cons (Sd.dInts_dp (SqL.of ((sC.trans sCE) _ _ cB))) .nil))
    have dp2 : Dp K HE (.ref h2) (Sd.handD recs' order) := .lst (SqL.of cE) (.cons (.lst (SqL.of (sE _ _ hfD)) (Sd.dp_recs hpE)) (.cons (Sd.dInts_dp (SqL.of ((s9C.trans sCE) _ _ hol))) .nil))
    refine ⟨_, _, dp1, dp2, Sd.handD_shaped _ _, Sd.handD_shaped _ _, _, rfl, ?_⟩
    rw [SeqAt.eqv_refl _ (Sd.handD_lay _ _)]
    have RE := RC.off (F := []) (Sd.Off.of_same sCE) (by simp) (Sd.Tu.same sCE)
    refine ⟨_, rfl, _, rfl, _, rfl, _, rfl, fl, ol, recs', order, m, rfl, RE, (s9C.trans sCE) _ _ hol, m1, by omega, fun HF sF => ⟨rfl, ?_⟩⟩
    rw [decide_eq_true rfl]
    exact q HF
end

theorem all_mk {l : PySem.W.OpenLaw} {w : World} {K : PySem.W.Frag} {h : Heap} {mg : Str → Option Value} {fa f1 f2 f3 f4 f5 f6 f7 f8 f9 f10 f11 f12 f13 f14 f15 : Addr} (X : K.In h) (G : h.Ns mainGlobals mg) (hfa : mg "law" = some (.ref fa))
    {od1 an1 od2 an2 od3 an3 od4 an4 od5 an5 od6 an6 od7 an7 od8 an8 od9 an9 od10 an10 od11 an11 od12 an12 od13 an13 od14 an14 od15 an15 : Option Addr} {sl1 sl2 sl3 sl4 sl5 sl6 sl7 sl8 sl9 sl10 sl11 sl12 sl13 sl14 sl15 : Array (Option Value)} {oc1 kV1 dc1 pm1 cd1 ct1 oc2 kV2 dc2 pm2 cd2 ct2 oc3 kV3 dc3 pm3 cd3 ct3 oc4 kV4 dc4 pm4 cd4 ct4 oc5 kV5 dc5 pm5 cd5 ct5 oc6 kV6 dc6 pm6 cd6 ct6 oc7 kV7 dc7 pm7 cd7 ct7 oc8 kV8 dc8 pm8 cd8 ct8 oc9 kV9 dc9 pm9 cd9 ct9 oc10 kV10 dc10 pm10 cd10 ct10 oc11 kV11 dc11 pm11 cd11 ct11 oc12 kV12 dc12 pm12 cd12 ct12 oc13 kV13 dc13 pm13 cd13 ct13 oc14 kV14 dc14 pm14 cd14 ct14 oc15 kV15 dc15 pm15 cd15 ct15 : Value}
    (a1 : PySem.W.nsIn K mainGlobals "_law_cell" = some (some (.ref f1)))
    (l1 : K.lookup f1 = some ⟨oc1, od1, .func (PySem.W.fnOf "_law_cell" "_law_cell" (defArgs s_l_cell) (defBody s_l_cell) (defScope s_l_cell) .none kV1 dc1 pm1 an1 cd1 ct1), sl1⟩)
    (c1 : PySem.W.codeIn K cd1 "_law_cell" = true)
    (k1 : PySem.W.keepIn K (.ref f1) = true)
    (a2 : PySem.W.nsIn K mainGlobals "_law_dice" = some (some (.ref f2)))
    (l2 : K.lookup f2 = some ⟨oc2, od2, .func (PySem.W.fnOf "_law_dice" "_law_dice" (defArgs s_l_dice) (defBody s_l_dice) (defScope s_l_dice) .none kV2 dc2 pm2 an2 cd2 ct2), sl2⟩)
    (c2 : PySem.W.codeIn K cd2 "_law_dice" = true)
    (k2 : PySem.W.keepIn K (.ref f2) = true)
    (a3 : PySem.W.nsIn K mainGlobals "_law_off" = some (some (.ref f3)))
    (l3 : K.lookup f3 = some ⟨oc3, od3, .func (PySem.W.fnOf "_law_off" "_law_off" (defArgs s_l_off) (defBody s_l_off) (defScope s_l_off) .none kV3 dc3 pm3 an3 cd3 ct3), sl3⟩)
    (c3 : PySem.W.codeIn K cd3 "_law_off" = true)
    (k3 : PySem.W.keepIn K (.ref f3) = true)
    (a4 : PySem.W.nsIn K mainGlobals "_law_deed" = some (some (.ref f4)))
    (l4 : K.lookup f4 = some ⟨oc4, od4, .func (PySem.W.fnOf "_law_deed" "_law_deed" (defArgs s_l_deed) (defBody s_l_deed) (defScope s_l_deed) .none kV4 dc4 pm4 an4 cd4 ct4), sl4⟩)
    (c4 : PySem.W.codeIn K cd4 "_law_deed" = true)
    (k4 : PySem.W.keepIn K (.ref f4) = true)
    (a5 : PySem.W.nsIn K mainGlobals "first_state" = some (some (.ref f5)))
    (l5 : K.lookup f5 = some ⟨oc5, od5, .func (PySem.W.fnOf "first_state" "first_state" (defArgs s_first_state) (defBody s_first_state) (defScope s_first_state) .none kV5 dc5 pm5 an5 cd5 ct5), sl5⟩)
    (c5 : PySem.W.codeIn K cd5 "first_state" = true)
    (k5 : PySem.W.keepIn K (.ref f5) = true)
    (a6 : PySem.W.nsIn K mainGlobals "answer_in" = some (some (.ref f6)))
    (l6 : K.lookup f6 = some ⟨oc6, od6, .func (PySem.W.fnOf "answer_in" "answer_in" (defArgs s_answer_in) (defBody s_answer_in) (defScope s_answer_in) .none kV6 dc6 pm6 an6 cd6 ct6), sl6⟩)
    (c6 : PySem.W.codeIn K cd6 "answer_in" = true)
    (k6 : PySem.W.keepIn K (.ref f6) = true)
    (a7 : PySem.W.nsIn K mainGlobals "state_behind" = some (some (.ref f7)))
    (l7 : K.lookup f7 = some ⟨oc7, od7, .func (PySem.W.fnOf "state_behind" "state_behind" (defArgs s_state_behind) (defBody s_state_behind) (defScope s_state_behind) .none kV7 dc7 pm7 an7 cd7 ct7), sl7⟩)
    (c7 : PySem.W.codeIn K cd7 "state_behind" = true)
    (k7 : PySem.W.keepIn K (.ref f7) = true)
    (a8 : PySem.W.nsIn K mainGlobals "_law_plain" = some (some (.ref f8)))
    (l8 : K.lookup f8 = some ⟨oc8, od8, .func (PySem.W.fnOf "_law_plain" "_law_plain" (defArgs s_l_plain) (defBody s_l_plain) (defScope s_l_plain) .none kV8 dc8 pm8 an8 cd8 ct8), sl8⟩)
    (c8 : PySem.W.codeIn K cd8 "_law_plain" = true)
    (k8 : PySem.W.keepIn K (.ref f8) = true)
    (a9 : PySem.W.nsIn K mainGlobals "_law_at_once" = some (some (.ref f9)))
    (l9 : K.lookup f9 = some ⟨oc9, od9, .func (PySem.W.fnOf "_law_at_once" "_law_at_once" (defArgs s_l_at_once) (defBody s_l_at_once) (defScope s_l_at_once) .none kV9 dc9 pm9 an9 cd9 ct9), sl9⟩)
    (c9 : PySem.W.codeIn K cd9 "_law_at_once" = true)
    (k9 : PySem.W.keepIn K (.ref f9) = true)
    (a10 : PySem.W.nsIn K mainGlobals "_law_keeps" = some (some (.ref f10)))
    (l10 : K.lookup f10 = some ⟨oc10, od10, .func (PySem.W.fnOf "_law_keeps" "_law_keeps" (defArgs s_l_keeps) (defBody s_l_keeps) (defScope s_l_keeps) .none kV10 dc10 pm10 an10 cd10 ct10), sl10⟩)
    (c10 : PySem.W.codeIn K cd10 "_law_keeps" = true)
    (k10 : PySem.W.keepIn K (.ref f10) = true)
    (a11 : PySem.W.nsIn K mainGlobals "keeps" = some (some (.ref f11)))
    (l11 : K.lookup f11 = some ⟨oc11, od11, .func (PySem.W.fnOf "keeps" "keeps" (defArgs s_keeps) (defBody s_keeps) (defScope s_keeps) .none kV11 dc11 pm11 an11 cd11 ct11), sl11⟩)
    (c11 : PySem.W.codeIn K cd11 "keeps" = true)
    (k11 : PySem.W.keepIn K (.ref f11) = true)
    (a12 : PySem.W.nsIn K mainGlobals "_law_history" = some (some (.ref f12)))
    (l12 : K.lookup f12 = some ⟨oc12, od12, .func (PySem.W.fnOf "_law_history" "_law_history" (defArgs s_l_history) (defBody s_l_history) (defScope s_l_history) .none kV12 dc12 pm12 an12 cd12 ct12), sl12⟩)
    (c12 : PySem.W.codeIn K cd12 "_law_history" = true)
    (k12 : PySem.W.keepIn K (.ref f12) = true)
    (a13 : PySem.W.nsIn K mainGlobals "_law_spoiled_order" = some (some (.ref f13)))
    (l13 : K.lookup f13 = some ⟨oc13, od13, .func (PySem.W.fnOf "_law_spoiled_order" "_law_spoiled_order" (defArgs s_l_spoiled_order) (defBody s_l_spoiled_order) (defScope s_l_spoiled_order) .none kV13 dc13 pm13 an13 cd13 ct13), sl13⟩)
    (c13 : PySem.W.codeIn K cd13 "_law_spoiled_order" = true)
    (k13 : PySem.W.keepIn K (.ref f13) = true)
    (a14 : PySem.W.nsIn K mainGlobals "_law_words" = some (some (.ref f14)))
    (l14 : K.lookup f14 = some ⟨oc14, od14, .func (PySem.W.fnOf "_law_words" "_law_words" (defArgs s_l_words) (defBody s_l_words) (defScope s_l_words) .none kV14 dc14 pm14 an14 cd14 ct14), sl14⟩)
    (c14 : PySem.W.codeIn K cd14 "_law_words" = true)
    (k14 : PySem.W.keepIn K (.ref f14) = true)
    (a15 : PySem.W.nsIn K mainGlobals "law" = some (some (.ref f15)))
    (l15 : K.lookup f15 = some ⟨oc15, od15, .func (PySem.W.fnOf "law" "law" (defArgs s_law) (defBody s_law) (defScope s_law) .none kV15 dc15 pm15 an15 cd15 ct15), sl15⟩)
    (c15 : PySem.W.codeIn K cd15 "law" = true)
    (k15 : PySem.W.keepIn K (.ref f15) = true)
    (z_abs : PySem.W.nsIn K mainGlobals "abs" = some none)
    (z_len : PySem.W.nsIn K mainGlobals "len" = some none)
    (z_max : PySem.W.nsIn K mainGlobals "max" = some none)
    (z_int : PySem.W.nsIn K mainGlobals "int" = some none)
    (z_isinstance : PySem.W.nsIn K mainGlobals "isinstance" = some none)
    (z_bool : PySem.W.nsIn K mainGlobals "bool" = some none)
    (z_tuple : PySem.W.nsIn K mainGlobals "tuple" = some none)
    (z_list : PySem.W.nsIn K mainGlobals "list" = some none)
    (z_sum : PySem.W.nsIn K mainGlobals "sum" = some none)
    (z_range : PySem.W.nsIn K mainGlobals "range" = some none)
    (z_sorted : PySem.W.nsIn K mainGlobals "sorted" = some none)
    (z_reversed : PySem.W.nsIn K mainGlobals "reversed" = some none)
    : ∃ fd : FuncData, (∀ (s : Shared) (v : Value), BindsTo s fd ⟨[v], []⟩ [("_law_script", v)]) ∧ ∀ base : Heap, K.In base → base.Ns mainGlobals mg → FnOk l.prog w K mg base CX0 5 fa fd ["_law_script"] (spLaw K) := by
  have e := hfa.symm.trans (PySem.W.mg_of X G a15)
  cases e
  have T : Txt K mg :=
    { abs := PySem.W.mg_none_of X G z_abs,
      len := PySem.W.mg_none_of X G z_len,
      max := PySem.W.mg_none_of X G z_max,
      int := PySem.W.mg_none_of X G z_int,
      isinstance := PySem.W.mg_none_of X G z_isinstance,
      bool := PySem.W.mg_none_of X G z_bool,
      tuple := PySem.W.mg_none_of X G z_tuple,
      list := PySem.W.mg_none_of X G z_list,
      sum := PySem.W.mg_none_of X G z_sum,
      range := PySem.W.mg_none_of X G z_range,
      sorted := PySem.W.mg_none_of X G z_sorted,
      reversed := PySem.W.mg_none_of X G z_reversed }
  have F1 := fun_mk (st := s_l_cell) l1 c1 k1
  have B1 := F1.binds (ps := ["_law_script", "_law_k"]) fun _ _ _ _ _ _ us hl => match us, hl with | [_, _], _ => rfl
  have F2 := fun_mk (st := s_l_dice) l2 c2 k2
  have B2 := F2.binds (ps := ["_law_script", "_law_k"]) fun _ _ _ _ _ _ us hl => match us, hl with | [_, _], _ => rfl
  have F3 := fun_mk (st := s_l_off) l3 c3 k3
  have B3 := F3.binds (ps := ["_law_d", "_law_most"]) fun _ _ _ _ _ _ us hl => match us, hl with | [_, _], _ => rfl
  have F4 := fun_mk (st := s_l_deed) l4 c4 k4
  have B4 := F4.binds (ps := ["_law_d", "_law_word"]) fun _ _ _ _ _ _ us hl => match us, hl with | [_, _], _ => rfl
  have F5 := fun_mk (st := s_first_state) l5 c5 k5
  have B5 := F5.binds (ps := ["many"]) fun _ _ _ _ _ _ us hl => match us, hl with | [_], _ => rfl
  have F6 := fun_mk (st := s_answer_in) l6 c6 k6
  have B6 := F6.binds (ps := ["state", "deed"]) fun _ _ _ _ _ _ us hl => match us, hl with | [_, _], _ => rfl
  have F7 := fun_mk (st := s_state_behind) l7 c7 k7
  have B7 := F7.binds (ps := ["state", "hand", "deed"]) fun _ _ _ _ _ _ us hl => match us, hl with | [_, _, _], _ => rfl
  have F8 := fun_mk (st := s_l_plain) l8 c8 k8
  have B8 := F8.binds (ps := ["_law_many"]) fun _ _ _ _ _ _ us hl => match us, hl with | [_], _ => rfl
  have F9 := fun_mk (st := s_l_at_once) l9 c9 k9
  have B9 := F9.binds (ps := ["_law_plain_here", "_law_hand", "_law_deed_here"]) fun _ _ _ _ _ _ us hl => match us, hl with | [_, _, _], _ => rfl
  have F10 := fun_mk (st := s_l_keeps) l10 c10 k10
  have B10 := F10.binds (ps := ["_law_records", "_law_order", "_law_many"]) fun _ _ _ _ _ _ us hl => match us, hl with | [_, _, _], _ => rfl
  have F11 := fun_mk (st := s_keeps) l11 c11 k11
  have B11 := F11.binds (ps := ["records", "order", "many"]) fun _ _ _ _ _ _ us hl => match us, hl with | [_, _, _], _ => rfl
  have F12 := fun_mk (st := s_l_history) l12 c12 k12
  have B12 := F12.binds (ps := ["_law_d", "_law_many", "_law_words_here", "_law_most"]) fun _ _ _ _ _ _ us hl => match us, hl with | [_, _, _, _], _ => rfl
  have F13 := fun_mk (st := s_l_spoiled_order) l13 c13 k13
  have B13 := F13.binds (ps := ["_law_d", "_law_order"]) fun _ _ _ _ _ _ us hl => match us, hl with | [_, _], _ => rfl
  have F14 := fun_mk (st := s_l_words) l14 c14 k14
  have B14 := F14.binds (ps := []) fun _ _ _ _ _ _ us hl => match us, hl with | [], _ => rfl
  have F15 := fun_mk (st := s_law) l15 c15 k15
  have B15 := F15.binds (ps := ["_law_script"]) fun _ _ _ _ _ _ us hl => match us, hl with | [_], _ => rfl
  refine ⟨PySem.W.fnOf "law" "law" (defArgs s_law) (defBody s_law) (defScope s_law) .none kV15 dc15 pm15 an15 cd15 ct15, fun s v => .of_eq rfl, fun base _ _ => ?_⟩
  have C_l_cell : Sd.Cal l.prog w K mg base CX0 1 "_law_cell" ["_law_script", "_law_k"] (Sd.spCell K) := Sd.Cal.mk' F1 (PySem.W.mg_of X G a1) B1 (ok_l_cell F1 T.toDr)
  have C_l_dice : Sd.Cal l.prog w K mg base CX0 2 "_law_dice" ["_law_script", "_law_k"] (Sd.spDice K) := Sd.Cal.mk' F2 (PySem.W.mg_of X G a2) B2 (ok_l_dice F2 T.toDr C_l_cell)
  have C_l_off : Sd.Cal l.prog w K mg base CX0 2 "_law_off" ["_law_d", "_law_most"] (Sd.spOff K) := Sd.Cal.mk' F3 (PySem.W.mg_of X G a3) B3 (ok_l_off F3 T.toDr C_l_cell)
  have C_l_deed : Sd.Cal l.prog w K mg base CX0 3 "_law_deed" ["_law_d", "_law_word"] (Sd.spLDeed K) := Sd.Cal.mk' F4 (PySem.W.mg_of X G a4) B4 (ok_l_deed F4 T.toDr C_l_off)
  have C_first_state : Sd.Cal l.prog w K mg base CX0 1 "first_state" ["many"] (Sd.spFirst) := Sd.Cal.mk' F5 (PySem.W.mg_of X G a5) B5 (ok_first_state F5 T.toDr)
  have C_answer_in : Sd.Cal l.prog w K mg base CX0 1 "answer_in" ["state", "deed"] (Sd.spAnsIn) := Sd.Cal.mk' F6 (PySem.W.mg_of X G a6) B6 (ok_answer_in F6 T.toDr)
  have C_state_behind : Sd.Cal l.prog w K mg base CX0 1 "state_behind" ["state", "hand", "deed"] (Sd.spBehind) := Sd.Cal.mk' F7 (PySem.W.mg_of X G a7) B7 (ok_state_behind F7 T.toDr)
  have C_l_plain : Sd.Cal l.prog w K mg base CX0 1 "_law_plain" ["_law_many"] (Sd.spLPlain) := Sd.Cal.mk' F8 (PySem.W.mg_of X G a8) B8 (ok_l_plain F8 T.toDr)
  have C_l_at_once : Sd.Cal l.prog w K mg base CX0 1 "_law_at_once" ["_law_plain_here", "_law_hand", "_law_deed_here"] (Sd.spAtOnce) := Sd.Cal.mk' F9 (PySem.W.mg_of X G a9) B9 (ok_l_at_once F9 T)
  have C_l_keeps : Sd.Cal l.prog w K mg base CX0 2 "_law_keeps" ["_law_records", "_law_order", "_law_many"] (Sd.spKeepsM) := Sd.Cal.mk' F10 (PySem.W.mg_of X G a10) B10 (ok_l_keeps F10 T C_l_plain C_l_at_once)
  have C_keeps : Sd.Cal l.prog w K mg base CX0 2 "keeps" ["records", "order", "many"] (Sd.spKeepsM) := Sd.Cal.mk' F11 (PySem.W.mg_of X G a11) B11 (ok_keeps F11 T C_first_state C_answer_in C_state_behind)
  have C_l_history : Sd.Cal l.prog w K mg base CX0 4 "_law_history" ["_law_d", "_law_many", "_law_words_here", "_law_most"] (Sd.spHistory K) := Sd.Cal.mk' F12 (PySem.W.mg_of X G a12) B12 (ok_l_history F12 T C_l_off C_l_deed C_l_plain C_l_at_once)
  have C_l_spoiled_order : Sd.Cal l.prog w K mg base CX0 3 "_law_spoiled_order" ["_law_d", "_law_order"] (Sd.spSpoiled K) := Sd.Cal.mk' F13 (PySem.W.mg_of X G a13) B13 (ok_l_spoiled_order F13 T C_l_off)
  have C_l_words : Sd.Cal l.prog w K mg base CX0 1 "_law_words" [] (Sd.spWords) := Sd.Cal.mk' F14 (PySem.W.mg_of X G a14) B14 (ok_l_words F14 T)
  exact ok_law F15 T C_l_cell C_l_dice C_l_off C_l_words C_l_history C_l_spoiled_order C_keeps C_l_keeps
theorem walk {l : PySem.W.OpenLaw} {q : Program} {loose : List Str} {XP : (Str → Option Value) → Heap → Prop} {YP : World → Heap → Prop} {d : DefRec} {K : Params → PySem.W.Frag} (hn : l.most = some 63) (hdf : d.params.defaults = [])
    (hY : ∀ (w : World) (h : Heap), YP w h → (K w.params).In h)
    (F : ∀ (w : World) (mg : Str → Option Value) (fa : Addr) (h : Heap), (K w.params).In h → h.Ns mainGlobals mg → mg d.name = some (.ref fa) →
      ∃ fd : FuncData, (∀ (s : Shared) (u : Value), BindsTo s fd ⟨[u], []⟩ [("_law_script", u)]) ∧ ∀ base : Heap, (K w.params).In base → base.Ns mainGlobals mg → FnOk l.prog w (K w.params) mg base CX0 5 fa fd ["_law_script"] (spLaw (K w.params))) :
    PySem.W.WalkO q loose XP YP l.row.toRowW d [] (fun f vs => PySem.call f vs) :=
  L2.walk_of (n := 63) (k := 5) (x := "_law_script") (CX := fun _ => CX0) (sp := fun w => spLaw (K w.params)) hn (by decide) hdf ⟨rfl, by decide, by decide⟩ hY F (fun _ _ a ns hl _ hS => ⟨a, ns, rfl, hS, hl, fun _ => rfl⟩) fun _ _ _ _ _ z => z
end K23
open PySem PySem.W PyProof.Rows in
set_option maxRecDepth 100000 in
set_option maxHeartbeats 0 in
theorem PySem.Challenge.cw_stillhands_k23_keeps_holds : PySem.Challenge.rw_stillhands_k23_keeps.Holds := by
  w_on; o_law; k_head; (case hw => w_witness2)
  k_fill
  refine K23.walk (l := PySem.Challenge.rw_stillhands_k23_keeps) rfl rfl (fun w h Y => PySem.W.kIn_of Y) ?F
  case F =>
    intro w mg fa h KX G hmg
    refine' K23.all_mk KX G hmg ?a1 ?l1 ?c1 ?k1 ?a2 ?l2 ?c2 ?k2 ?a3 ?l3 ?c3 ?k3 ?a4 ?l4 ?c4 ?k4 ?a5 ?l5 ?c5 ?k5 ?a6 ?l6 ?c6 ?k6 ?a7 ?l7 ?c7 ?k7 ?a8 ?l8 ?c8 ?k8 ?a9 ?l9 ?c9 ?k9 ?a10 ?l10 ?c10 ?k10 ?a11 ?l11 ?c11 ?k11 ?a12 ?l12 ?c12 ?k12 ?a13 ?l13 ?c13 ?k13 ?a14 ?l14 ?c14 ?k14 ?a15 ?l15 ?c15 ?k15 ?z_abs ?z_len ?z_max ?z_int ?z_isinstance ?z_bool ?z_tuple ?z_list ?z_sum ?z_range ?z_sorted ?z_reversed
    (case a1 => k_is)
    (case l1 => k_is)
    (case c1 => k_is)
    (case k1 => k_is)
    (case a2 => k_is)
    (case l2 => k_is)
    (case c2 => k_is)
    (case k2 => k_is)
    (case a3 => k_is)
    (case l3 => k_is)
    (case c3 => k_is)
    (case k3 => k_is)
    (case a4 => k_is)
    (case l4 => k_is)
    (case c4 => k_is)
    (case k4 => k_is)
    (case a5 => k_is)
    (case l5 => k_is)
    (case c5 => k_is)
    (case k5 => k_is)
    (case a6 => k_is)
    (case l6 => k_is)
    (case c6 => k_is)
    (case k6 => k_is)
    (case a7 => k_is)
    (case l7 => k_is)
    (case c7 => k_is)
    (case k7 => k_is)
    (case a8 => k_is)
    (case l8 => k_is)
    (case c8 => k_is)
    (case k8 => k_is)
    (case a9 => k_is)
    (case l9 => k_is)
    (case c9 => k_is)
    (case k9 => k_is)
    (case a10 => k_is)
    (case l10 => k_is)
    (case c10 => k_is)
    (case k10 => k_is)
    (case a11 => k_is)
    (case l11 => k_is)
    (case c11 => k_is)
    (case k11 => k_is)
    (case a12 => k_is)
    (case l12 => k_is)
    (case c12 => k_is)
    (case k12 => k_is)
    (case a13 => k_is)
    (case l13 => k_is)
    (case c13 => k_is)
    (case k13 => k_is)
    (case a14 => k_is)
    (case l14 => k_is)
    (case c14 => k_is)
    (case k14 => k_is)
    (case a15 => k_is)
    (case l15 => k_is)
    (case c15 => k_is)
    (case k15 => k_is)
    (case z_abs => k_is)
    (case z_len => k_is)
    (case z_max => k_is)
    (case z_int => k_is)
    (case z_isinstance => k_is)
    (case z_bool => k_is)
    (case z_tuple => k_is)
    (case z_list => k_is)
    (case z_sum => k_is)
    (case z_range => k_is)
    (case z_sorted => k_is)
    (case z_reversed => k_is)
