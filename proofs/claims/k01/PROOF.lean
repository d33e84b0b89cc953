import PyProof.Rows.All
import Wide.All
import OpenK.AllK
import Wide.FinOn
import HandS.ForMost
import HandS.Rev
import HandS.IsInst
import HandS.Codes
import PySem.Challenge.RW_stillhands_k01_rows_as_one
set_option Elab.async false
set_option linter.all false
set_option maxRecDepth 100000
set_option maxHeartbeats 4000000
/-! rows of numbers as one number -/
namespace Sd
def enc : List Int → Int
  | [] => 1
  | x :: xs => x + 1000000 * enc xs
def In6 (l : List Int) : Prop := ∀ x ∈ l, 0 ≤ x ∧ x < 1000000
theorem In6.nil : In6 [] := fun x h => by cases h
theorem In6.tail {x : Int} {l : List Int} (h : In6 (x :: l)) : In6 l := fun y hy => h y (List.mem_cons_of_mem _ hy)
theorem In6.drop {l : List Int} (h : In6 l) (k : Nat) : In6 (l.drop k) := fun y hy => h y (List.mem_of_mem_drop hy)
theorem In6.get {l : List Int} (h : In6 l) {k : Nat} {v : Int} (e : l[k]? = some v) : 0 ≤ v ∧ v < 1000000 := h v (List.mem_of_getElem? e)
theorem enc_pos : ∀ {l : List Int}, In6 l → 1 ≤ enc l
  | [], _ => by decide
  | x :: l, h => by
    have h1 := enc_pos h.tail
    have h2 := h x List.mem_cons_self
    show 1 ≤ x + 1000000 * enc l
    omega
theorem enc_cons (x : Int) (l : List Int) : enc (x :: l) = x + 1000000 * enc l := rfl
theorem enc_big {x : Int} {l : List Int} (h : In6 (x :: l)) : 1 < enc (x :: l) := by
  have h1 := enc_pos h.tail
  have h2 := h x List.mem_cons_self
  rw [enc_cons]
  omega
theorem enc_mod {x : Int} {l : List Int} (h : In6 (x :: l)) : enc (x :: l) % 1000000 = x := by
  have h2 := h x List.mem_cons_self
  rw [enc_cons]
  omega
theorem enc_div {x : Int} {l : List Int} (h : In6 (x :: l)) : enc (x :: l) / 1000000 = enc l := by
  have h2 := h x List.mem_cons_self
  rw [enc_cons]
  omega
theorem drop_at {l : List Int} {k : Nat} {v : Int} (e : l[k]? = some v) : l.drop k = v :: l.drop (k + 1) := by
  obtain ⟨h, q⟩ := List.getElem?_eq_some_iff.mp e
  rw [List.drop_eq_getElem_cons h, q]
theorem enc_drop {l : List Int} {k : Nat} {v : Int} (e : l[k]? = some v) : enc (l.drop k) = v + 1000000 * enc (l.drop (k + 1)) := by
  rw [drop_at e]
  rfl
theorem take_at {l : List Int} {k : Nat} {v : Int} (e : l[k]? = some v) : l.take (k + 1) = l.take k ++ [v] := by
  obtain ⟨h, q⟩ := List.getElem?_eq_some_iff.mp e
  rw [List.take_succ_eq_append_getElem h, q]
end Sd

/-! words of mine over the hand layer: a def that the module holds under a name (Cal), its call; lists; the draws of a script -/
namespace Sd
open PySem L2
/-- the module's name x holds a def that keeps sp -/
structure Cal (P : Program) (w : World) (K : PySem.W.Frag) (mg : Str → Option Value) (base : Heap) (CX : CXT) (k : Nat) (x : Str) (ps : List Str) (sp : Sp) : Prop where
  ex : ∃ f fd, mg x = some (.ref f) ∧ PySem.W.keepIn K (.ref f) = true ∧ Binds K fd ps [] ∧ FnOk P w K mg base CX k f fd ps sp
section
variable {X : Cx} {CX : CXT} {k : Nat} {ps : List Str} {sp : Sp} {E : XK} {x : Str} {p pos : Pos} {e : Expr} {es : List Expr} {t : TA}
theorem pe_fn (c : Cal X.prog X.w X.K X.mg X.base CX k x ps sp) (hr : Room k X.A) (hx : Passes CX X E) (ha : PA X (e :: es) t) (hg : Gl X x := by rfl)
    (hdb : (x == ("__debug__" : Str)) = false := by decide) (he : starEach (e :: es) X.env = (false, eval e X.env) :: starEach es X.env := by rfl) (hpl : (backTo pos (starEach es X.env)).any (·.1) = false := by rfl) :
    PE X (.Call (.Name x p) (e :: es) [] pos) (tCall sp [] E t) := by
  obtain ⟨f, fd, hm, hk, hb, F⟩ := c.ex
  exact pe_call F hr hg hm hk hb .nil hx ha hdb he hpl
theorem pe_fn0 (c : Cal X.prog X.w X.K X.mg X.base CX k x ps sp) (hr : Room k X.A) (hx : Passes CX X E) (hg : Gl X x := by rfl)
    (hdb : (x == ("__debug__" : Str)) = false := by decide) : PE X (.Call (.Name x p) [] [] pos) (tCall sp [] E tNil) := by
  obtain ⟨f, fd, hm, hk, hb, F⟩ := c.ex
  exact pe_call0 F hr hg hm hk hb .nil hx hdb
end
theorem Cal.mk' {P : Program} {w : World} {K : PySem.W.Frag} {mg : Str → Option Value} {base : Heap} {CX : CXT} {k : Nat} {x q : Str} {st : Stmt} {f : Addr} {fd : FuncData} {ps : List Str} {sp : Sp}
    (F : Fun K x q st f fd) (hm : mg x = some (.ref f)) (b : Binds K fd ps []) (G : FnOk P w K mg base CX k f fd ps sp) : Cal P w K mg base CX k x ps sp := ⟨f, fd, hm, F.kp, b, G⟩

/-! ### heaps -/
/-- what was tracked stands, but for the object at d -/
def But (d : Addr) (H H' : Hp) : Prop := ∀ b o, b ≠ d → H b = some o → H' b = some o
theorem But.refl (d : Addr) (H : Hp) : But d H H := fun _ _ _ h => h
theorem But.trans {d : Addr} {H H1 H2 : Hp} (a : But d H H1) (b : But d H1 H2) : But d H H2 := fun c o n h => b c o n (a c o n h)
theorem But.upd {d : Addr} {H : Hp} {o : HO} : But d H (upd H d o) := fun b u n h => by
  rw [upd_ne n]
  exact h
theorem Same.but {d : Addr} {H H' : Hp} (s : Same H H') : But d H H' := fun b o _ h => s b o h
theorem Same.new {H : Hp} {p : Addr} {o : HO} (h : H p = none) : Same H (upd H p o) := fun b u e => by
  rw [upd_ne (ne_of_none e h)]
  exact e
theorem Same.new2 {H : Hp} {p : Addr} {o o2 : HO} (h : H p = none) : Same H (upd (upd H p o) p o2) := fun b u e => by
  rw [upd_ne (ne_of_none e h), upd_ne (ne_of_none e h)]
  exact e
theorem But.same {d : Addr} {H H' : Hp} (s : But d H H') (h : H d = none) : Same H H' := fun b o e => s b o (ne_of_none e h) e
/-- the heap H' tracks what it did, and at d what it says -/
theorem But.free {d : Addr} {H H' : Hp} (s : But d H H') {u : HO} (hd : H' d = some u) {l : Addr} (h : H' l = none) : H l = none := by
  cases q : H l with
  | none => rfl
  | some o =>
    have n : l ≠ d := fun z => by
      rw [z, hd] at h
      cases h
    rw [s l o n q] at h
    cases h
theorem SqL.new {K : PySem.W.Frag} {H : Hp} {a p : Addr} {xs : List V} {o : HO} (h : SqL K H a xs) (n : H p = none) : SqL K (upd H p o) a xs := Same.seq (Same.new n) h
theorem SqL.but {K : PySem.W.Frag} {H H' : Hp} {a d : Addr} {xs : List V} (h : SqL K H a xs) (s : But d H H') (n : a ≠ d ∨ H d = none) : SqL K H' a xs := by
  rcases n with n | n
  · rcases h with (h | ⟨o, h⟩) | h
    · exact .inl (.inl (s _ _ n h))
    · exact .inl (.inr ⟨o, s _ _ n h⟩)
    · exact .inr h
  · exact Same.seq (s.same n) h
/-- a list that holds the object p is no list of ints -/
theorem SqL.keep {K : PySem.W.Frag} {H H' : Hp} {a d : Addr} {xs ys : List V} (h : SqL K H a xs) (s : But d H H') (hd : H d = some (.lst ys)) (n : ys ≠ xs) : SqL K H' a xs := by
  rcases h with (h | ⟨o, h⟩) | h
  · refine .inl (.inl (s _ _ (fun z => ?_) h))
    rw [z, hd] at h
    exact n (by cases h; rfl)
  · refine .inl (.inr ⟨o, s _ _ (fun z => ?_) h⟩)
    rw [z, hd] at h
    cases h
  · exact .inr h

/-! ### lists of ints -/
theorem ints_get {ns : List Int} {j : Nat} {v : Int} (h : ns[j]? = some v) : (ns.map V.int)[j]? = some (.int v) := by
  rw [List.getElem?_map, h]
  rfl
theorem ints_got {ns : List Int} {j : Nat} {y : V} (h : (ns.map V.int)[j]? = some y) : ∃ v, ns[j]? = some v ∧ y = .int v := by
  rw [List.getElem?_map] at h
  cases e : ns[j]? with
  | none =>
    rw [e] at h
    cases h
  | some v =>
    rw [e] at h
    exact ⟨v, rfl, (Option.some.inj h).symm⟩
theorem ixN_nat {n j : Nat} (hj : j < n) : ixN n ((j : Nat) : Int) = some j := by
  unfold ixN
  rw [if_pos (Int.natCast_nonneg j), if_pos (by omega), Int.toNat_natCast]
theorem size1 {n : Int} (h0 : 0 ≤ n) (h1 : n ≤ 100000) : 1 * n.toNat ≤ sizeLine := Nat.le_trans (by omega : 1 * n.toNat ≤ 100000) (by decide)
def dInts (ns : List Int) : PyData := .list (ns.map PyData.int)
theorem dInts_all {K : PySem.W.Frag} {H : Hp} : ∀ ns : List Int, DpAll K H (ns.map V.int) (ns.map PyData.int)
  | [] => .nil
  | n :: r => .cons (.int n) (dInts_all r)
theorem dInts_dp {K : PySem.W.Frag} {H : Hp} {a : Addr} {ns : List Int} (h : SqL K H a (ns.map V.int)) : Dp K H (.ref a) (dInts ns) := .lst h (dInts_all ns)
theorem lay_ints : ∀ ns : List Int, PyData.canLayAll0 (ns.map PyData.int) = true
  | [] => rfl
  | n :: r => by
    have h := lay_ints r
    show (PyData.canLay0 (.int n) && PyData.canLayAll0 (r.map PyData.int)) = true
    rw [h]
    rfl
theorem depth_ints : ∀ ns : List Int, PyData.depthAll (ns.map PyData.int) = 0
  | [] => rfl
  | n :: r => by
    have h := depth_ints r
    show max (PyData.depth (.int n)) (PyData.depthAll (r.map PyData.int)) = 0
    rw [h]
    rfl
theorem dInts_shaped (ns : List Int) : SeqAt.shaped (dInts ns) = true := by
  have h1 : PyData.canLay0 (dInts ns) = true := lay_ints ns
  have h2 : PyData.depth (dInts ns) = PyData.depthAll (ns.map PyData.int) + 1 := rfl
  rw [depth_ints] at h2
  unfold SeqAt.shaped
  rw [h1, h2]
  rfl
theorem eqv_all : ∀ ns : List Int, PyData.eqvAll (ns.map PyData.int) (ns.map PyData.int) = true
  | [] => rfl
  | n :: r => by
    have h := eqv_all r
    show (PyData.eqv (.int n) (.int n) && PyData.eqvAll (r.map PyData.int) (r.map PyData.int)) = true
    rw [h]
    show ((n == n) && true) = true
    rw [beq_self_eq_true]
    rfl
theorem eqv_ints (ns : List Int) : PyData.eqv (dInts ns) (dInts ns) = true := eqv_all ns
/-- an if whose test is known -/
theorem if_no {c : Bool} {A B : Prop} (h : c = true) (q : B) : if (!c) = true then A else B := by
  rw [h]
  exact q
theorem if_yes {c : Bool} {A B : Prop} (h : c = true) (q : A) : if c = true then A else B := by
  rw [h]
  exact q
theorem if_not {c : Bool} {A B : Prop} (h : c = false) (q : B) : if c = true then A else B := by
  rw [h]
  exact q
theorem ty_int {K : PySem.W.Frag} {H : Hp} {i : Int} : TyX K H (.int i) (.type "int") := .base (.int i)
theorem ty_lst {K : PySem.W.Frag} {H : Hp} {a : Addr} {xs : List V} (h : H a = some (.lst xs)) : TyX K H (.ref a) (.type "list") := .base (.lst h)
/-- a list that stood where p was free stands when p's object is laid or changed -/
theorem SqL.upd0 {K : PySem.W.Frag} {H0 H : Hp} {a p : Addr} {xs : List V} {o : HO} (h0 : SqL K H0 a xs) (hp : H0 p = none) (h : SqL K H a xs) : SqL K (upd H p o) a xs := by
  rcases h0 with h0 | h0
  · have n : a ≠ p := by
      rcases h0 with h0 | ⟨u, h0⟩
      · exact ne_of_none h0 hp
      · exact ne_of_none h0 hp
    exact SqL.but h (But.upd (d := p)) (.inl n)
  · exact .inr h0
theorem rep_flat (n : Nat) (i : Int) : (List.replicate n [V.int i]).flatten = (List.replicate n i).map V.int := by
  induction n with
  | zero => rfl
  | succ n ih =>
    rw [List.replicate_succ, List.replicate_succ, List.flatten_cons, ih]
    rfl
/-- an instance that is made: what stood, stands -/
theorem made_same {H H' : Hp} {x dx : Addr} {u v : HO} (h1 : H x = none) (h2 : H dx = none) (b : But x (upd (upd H dx u) x v) H') : Same H H' := fun c o e => by
  have n1 : c ≠ x := ne_of_none e h1
  have n2 : c ≠ dx := ne_of_none e h2
  refine b c o n1 ?_
  rw [upd_ne n1, upd_ne n2]
  exact e
theorem made_free {H : Hp} {x dx l : Addr} {u v : HO} (h1 : H x = none) (h2 : H dx = none) (h : upd (upd H dx u) x v l = none) : H l = none := by
  cases q : H l with
  | none => rfl
  | some o =>
    have n1 : l ≠ x := ne_of_none q h1
    have n2 : l ≠ dx := ne_of_none q h2
    rw [upd_ne n1, upd_ne n2, q] at h
    cases h
/-- a list that stood where p was free stands whatever p's object becomes -/
theorem SqL.other {K : PySem.W.Frag} {H0 H H' : Hp} {a p : Addr} {xs : List V} (h0 : SqL K H0 a xs) (hp : H0 p = none) (h : SqL K H a xs) (s : But p H H') : SqL K H' a xs := by
  rcases h0 with h0 | h0
  · have n : a ≠ p := by
      rcases h0 with h0 | ⟨u, h0⟩
      · exact ne_of_none h0 hp
      · exact ne_of_none h0 hp
    exact SqL.but h s (.inl n)
  · exact .inr h0
end Sd

/-! the draws of a script: _law_cell, _law_dice, _law_off -/
namespace Sd
open PySem L2
theorem b01 (c : Bool) : -(2 ^ 64) < (if c = true then (1 : Int) else 0) ∧ (if c = true then (1 : Int) else 0) < 2 ^ 64 := by
  cases c with
  | true =>
    rw [if_pos rfl]
    decide
  | false =>
    rw [if_neg Bool.false_ne_true]
    decide
def spCell (K : PySem.W.Frag) : Sp := fun vs H Q _ => ∃ (a : Addr) (ns : List Int) (k : Int), vs = [.ref a, .int k] ∧ 0 ≤ k ∧ SqL K H a (ns.map V.int) ∧ ∀ v : Int, Q (.int v) H
/-- what the draws go on with stands at d: four things, the second one the script's list -/
def Dice (H : Hp) (d a : Addr) : Prop := ∃ n k g : Int, H d = some (.lst [.int n, .ref a, .int k, .int g])
theorem Dice.but {H H' : Hp} {d a e : Addr} (h : Dice H d a) (b : But e H H') (n : d ≠ e) : Dice H' d a := by
  obtain ⟨x, k, g, h⟩ := h
  exact ⟨x, k, g, b _ _ n h⟩
theorem Dice.same {H H' : Hp} {d a : Addr} (h : Dice H d a) (s : Same H H') : Dice H' d a := by
  obtain ⟨x, k, g, h⟩ := h
  exact ⟨x, k, g, s _ _ h⟩
theorem Dice.some {H : Hp} {d a : Addr} (h : Dice H d a) : ∃ u, H d = some u := by
  obtain ⟨x, k, g, h⟩ := h
  exact ⟨_, h⟩
theorem Dice.ne {H : Hp} {d a p : Addr} (h : Dice H d a) (n : H p = none) : d ≠ p := by
  obtain ⟨x, k, g, h⟩ := h
  exact ne_of_none h n
/-- the script stands, whatever the draws' list becomes -/
theorem Dice.seq {K : PySem.W.Frag} {H H' : Hp} {d a : Addr} {ns : List Int} (h : Dice H d a) (b : But d H H') (s : SqL K H a (ns.map V.int)) : SqL K H' a (ns.map V.int) := by
  obtain ⟨n, k, g, h⟩ := h
  refine Sd.SqL.keep s b h (fun e => ?_)
  cases ns with
  | nil => cases e
  | cons x r =>
    cases r with
    | nil => cases e
    | cons y r =>
      have e2 := (List.cons.inj (List.cons.inj e).2).1
      cases e2
theorem Dice.ne_ints {H : Hp} {d a l : Addr} {xs : List Int} (h : Dice H d a) (hl : H l = Option.some (.lst (xs.map V.int))) : l ≠ d := fun z => by
  obtain ⟨n, k, g, h⟩ := h
  rw [z, h] at hl
  have e := (HO.lst.inj (Option.some.inj hl))
  cases xs with
  | nil => cases e
  | cons x r =>
    cases r with
    | nil => cases e
    | cons y r => cases (List.cons.inj (List.cons.inj e).2).1
def spDice (K : PySem.W.Frag) : Sp := fun vs H Q _ => ∃ (a : Addr) (ns : List Int) (k : Int), vs = [.ref a, .int k] ∧ 0 ≤ k ∧ SqL K H a (ns.map V.int) ∧
  ∀ (p : Addr) (H' : Hp), H p = none → Same H H' → But p H H' → Dice H' p a → (∀ b, b ≠ p → H' b = H b) → Q (.ref p) H'
def spOff (K : PySem.W.Frag) : Sp := fun vs H Q _ => ∃ (d a : Addr) (ns : List Int) (m : Int), vs = [.ref d, .int m] ∧ Dice H d a ∧ SqL K H a (ns.map V.int) ∧ 0 < m ∧ m < 1073741824 ∧
  ∀ (r : Int) (H' : Hp), 0 ≤ r → r < m → Dice H' d a → (∀ b, b ≠ d → H' b = H b) → Q (.int r) H'
end Sd

namespace K01
open PySem L2
def top (i : Nat) : Stmt := PySem.Challenge.pw_stillhands_k01_rows_as_one.main.body.getD i (.Pass ⟨0, 0, 0, 0⟩)
abbrev s_packed : Stmt := top 5
abbrev s_parted : Stmt := top 6
abbrev s_l_cell : Stmt := top 8
abbrev s_l_dice : Stmt := top 9
abbrev s_l_off : Stmt := top 10
abbrev s_law : Stmt := top 11
structure Dr (K : PySem.W.Frag) (mg : Str → Option Value) : Prop where
  abs : mg "abs" = none
  len : mg "len" = none
  max : mg "max" = none
  int : mg "int" = none
structure Txt (K : PySem.W.Frag) (mg : Str → Option Value) (tL : Tok) : Prop extends Dr K mg where
  list : mg "list" = none
  bool : mg "bool" = none
  range : mg "range" = none
  reversed : mg "reversed" = none
  isinstance : mg "isinstance" = none
  m_LIMIT : mg "LIMIT" = some (.int 1000000 tL)
def spPacked (K : PySem.W.Frag) : Sp := fun vs H Q _ => ∃ (a : Addr) (row : List Int), vs = [.ref a] ∧ SqL K H a (row.map V.int) ∧ Sd.In6 row ∧ Q (.int (Sd.enc row)) H
/-- 0 stands for the empty row, too -/
def spParted : Sp := fun vs H Q _ => ∃ (n : Int) (row : List Int), vs = [.int n] ∧ Sd.In6 row ∧ row.length ≤ 1000 ∧ (n = Sd.enc row ∨ (n = 0 ∧ row = [])) ∧
  ∀ p, H p = none → ∀ H', Same H H' → H' p = some (.lst (row.map V.int)) → Q (.ref p) H'
def spLaw (K : PySem.W.Frag) : Sp := fun vs H Q _ => ∃ (a : Addr) (ns : List Int), vs = [.ref a] ∧ SqL K H a (ns.map V.int) ∧ ns.length ≤ 63 ∧ ∀ H', Q (.bl true) H'
/-! a cell of the script -/
section
variable {P : Program} {w : World} {K : PySem.W.Frag} {mg : Str → Option Value} {base : Heap}
abbrev N_l_cell : List Str := ["_law_script", "_law_k"]
theorem sc_l_cell : FnScope N_l_cell ["_law_script", "_law_k"] (defScope s_l_cell) := ⟨rfl, rfl, rfl, by decide +kernel, rfl, by decide +kernel, by decide +kernel⟩
theorem ok_l_cell {f : Addr} {fd : FuncData} (F : Fun K "_law_cell" "_law_cell" s_l_cell f fd) (T : Dr K mg) : FnOk P w K mg base CX0 1 f fd ["_law_script", "_law_k"] (Sd.spCell K) := by
  refine F.ok sc_l_cell (fun vs H Q E h => ?_) (fun cdv A outer s H vs Q E hr h => ?_)
  · obtain ⟨a, ns, k, rfl, _⟩ := h
    rfl
  · obtain ⟨a, ns, k, rfl, h0, hS, q⟩ := h
    refine ⟨_, (pss_cons (ps_if (pt_cmpR op_lt (pv 1) (pe_callB call_len_seq (by rfl) T.len (by decide +kernel) (pa_cons (pv 0) pa_nil)) (nomark _))
      (pss_one (ps_ret (pe_ix ix_list (pv 0) (pv 1) (fun _ _ => rfl))))
      pss_nil)
      (pss_one (ps_ret pe_int))), ?_⟩
    obtain ⟨m, rfl⟩ := Int.eq_ofNat_of_zero_le h0
    refine ⟨_, rfl, _, rfl, a, _, rfl, .inl hS, _, _, rfl, rfl, _, rfl, ?_⟩
    refine ite2 (fun c => ?_) (fun c => ?_)
    · have hm : m < ns.length := by
        have c' := of_decide_eq_true c
        rw [List.length_map] at c'
        omega
      exact ⟨_, rfl, _, rfl, a, _, _, _, rfl, rfl, hS, atI_nat (Sd.ints_get (List.getElem?_eq_getElem hm)), q _⟩
    · exact q 0
end
/-! the defs of the draws -/
section
variable {P : Program} {w : World} {K : PySem.W.Frag} {mg : Str → Option Value} {base : Heap}
abbrev N_l_dice : List Str := ["_law_script", "_law_k", "_law_cell_here"]
theorem sc_l_dice : FnScope N_l_dice ["_law_script", "_law_k"] (defScope s_l_dice) := ⟨rfl, rfl, rfl, by decide +kernel, rfl, by decide +kernel, by decide +kernel⟩
theorem ok_l_dice {f : Addr} {fd : FuncData} (F : Fun K "_law_dice" "_law_dice" s_l_dice f fd) (T : Dr K mg) (C_l_cell : Sd.Cal P w K mg base CX0 1 "_law_cell" ["_law_script", "_law_k"] (Sd.spCell K)) :
    FnOk P w K mg base CX0 2 f fd ["_law_script", "_law_k"] (Sd.spDice K) := by
  refine F.ok sc_l_dice (fun vs H Q E h => ?_) (fun cdv A outer s H vs Q E hr h => ?_)
  · obtain ⟨a, ns, k, rfl, _⟩ := h
    rfl
  · obtain ⟨a, ns, k, rfl, h0, hS, q⟩ := h
    refine ⟨_, (pss_cons (ps_set (i := 2) sc_l_dice.nd rfl (Or.inl rfl) (pe_callB call_abs (by rfl) T.abs (by decide +kernel) (pa_cons (Sd.pe_fn C_l_cell (hr.mono (by decide)) pass0 (pa_cons (pv 0) (pa_cons (pv 1) pa_nil))) pa_nil)))
      (pss_one (ps_ret (pe_lst (pa_cons (pe_op op_mod (pv 2) pe_int) (pa_cons (pv 0) (pa_cons (pe_op op_add (pv 1) pe_int) (pa_cons (pe_op op_mul (pe_callTy call_int1 (by rfl) T.int (by decide +kernel) (pa_cons (pe_cmpR op_ge (pv 2) (pe_op op_pow pe_int pe_int) (nomark _)) pa_nil)) (pv 2)) pa_nil)))))))), ?_⟩
    refine ⟨_, rfl, _, rfl, a, ns, k, rfl, h0, hS, fun v => ⟨v, rfl, ?_⟩⟩
    refine ⟨_, rfl, _, _, rfl, rfl, (by show (0 : Int) < 2147483647; decide), _, rfl, _, rfl, _, _, rfl, rfl, ?_⟩
    refine ⟨_, rfl, _, _, rfl, rfl, ⟨by decide, by decide, by decide⟩, _, _, rfl, rfl, .inr ⟨_, rfl, ?_⟩⟩
    refine ⟨_, rfl, _, _, rfl, rfl, .inl ?_, (by show 4 ≤ sizeLine; decide), fun p hp => ?_⟩
    · exact Sd.b01 _
    · exact q p _ hp (Sd.Same.new hp) Sd.But.upd ⟨_, _, _, upd_same⟩ fun b n => upd_ne n
abbrev N_l_off : List Str := ["_law_d", "_law_most", "_law_found", "_law_more"]
theorem sc_l_off : FnScope N_l_off ["_law_d", "_law_most"] (defScope s_l_off) := ⟨rfl, rfl, rfl, by decide +kernel, rfl, by decide +kernel, by decide +kernel⟩
theorem ok_l_off {f : Addr} {fd : FuncData} (F : Fun K "_law_off" "_law_off" s_l_off f fd) (T : Dr K mg) (C_l_cell : Sd.Cal P w K mg base CX0 1 "_law_cell" ["_law_script", "_law_k"] (Sd.spCell K)) :
    FnOk P w K mg base CX0 2 f fd ["_law_d", "_law_most"] (Sd.spOff K) := by
  refine F.ok sc_l_off (fun vs H Q E h => ?_) (fun cdv A outer s H vs Q E hr h => ?_)
  · obtain ⟨d, a, ns, m, rfl, _⟩ := h
    rfl
  · obtain ⟨d, a, ns, m, rfl, ⟨n, k, g, hd⟩, hS, hm0, hm1, q⟩ := h
    refine ⟨_, (pss_cons (ps_if (pt_cmpR op_gt (pe_ix ix_list (pv 0) pe_int (fun _ _ => rfl)) pe_int (nomark _))
      (pss_cons (ps_set (i := 2) sc_l_off.nd rfl (Or.inl rfl) (pe_op op_mod (pe_ix ix_list (pv 0) pe_int (fun _ _ => rfl)) (pv 1)))
      (pss_cons (ps_asg (pe_op op_fdiv (pe_ix ix_list (pv 0) pe_int (fun _ _ => rfl)) (pv 1)) (pg_sub (pv 0) pe_int set_list))
      (pss_one (ps_ret (pv 2)))))
      pss_nil)
      (pss_cons (ps_set (i := 3) sc_l_off.nd rfl (Or.inl rfl) (pe_callB call_abs (by rfl) T.abs (by decide +kernel) (pa_cons (Sd.pe_fn C_l_cell (hr.mono (by decide)) pass0 (pa_cons (pe_ix ix_list (pv 0) pe_int (fun _ _ => rfl)) (pa_cons (pe_op op_mod (pe_ix ix_list (pv 0) pe_int (fun _ _ => rfl)) (pe_callB (call_max2 rfl) (by rfl) T.max (by decide +kernel) (pa_cons pe_int (pa_cons (pe_callB call_len_seq (by rfl) T.len (by decide +kernel) (pa_cons (pe_ix ix_list (pv 0) pe_int (fun _ _ => rfl)) pa_nil)) pa_nil)))) pa_nil))) pa_nil)))
      (pss_cons (ps_asg (pe_op op_add (pe_ix ix_list (pv 0) pe_int (fun _ _ => rfl)) pe_int) (pg_sub (pv 0) pe_int set_list))
      (pss_cons (ps_asg (pe_op op_mod (pe_op op_add (pe_op op_add (pe_op op_mul (pe_ix ix_list (pv 0) pe_int (fun _ _ => rfl)) pe_int) pe_int) (pv 3)) pe_int) (pg_sub (pv 0) pe_int set_list))
      (pss_one (ps_ret (pe_op op_mod (pe_op op_fdiv (pe_ix ix_list (pv 0) pe_int (fun _ _ => rfl)) pe_int) (pv 1)))))))), ?_⟩
    have at0 : ∀ x y z t : V, atI [x, y, z, t] (0 : Int) = some x := fun _ _ _ _ => atI_nat (j := 0) rfl
    have at1 : ∀ x y z t : V, atI [x, y, z, t] (1 : Int) = some y := fun _ _ _ _ => atI_nat (j := 1) rfl
    have at2 : ∀ x y z t : V, atI [x, y, z, t] (2 : Int) = some z := fun _ _ _ _ => atI_nat (j := 2) rfl
    have at3 : ∀ x y z t : V, atI [x, y, z, t] (3 : Int) = some t := fun _ _ _ _ => atI_nat (j := 3) rfl
    refine ⟨_, rfl, d, _, _, _, rfl, rfl, SqL.of hd, at3 _ _ _ _, _, _, rfl, rfl, _, rfl, ?_⟩
    refine ite2 (fun c => ?_) (fun c => ?_)
    · refine ⟨_, rfl, d, _, _, _, rfl, rfl, SqL.of hd, at3 _ _ _ _, _, rfl, _, _, rfl, rfl, hm0, ?_⟩
      refine ⟨_, rfl, d, _, _, _, rfl, rfl, SqL.of hd, at3 _ _ _ _, _, rfl, _, _, rfl, rfl, ⟨hm0, hm1⟩, _, rfl, d, _, _, 3, rfl, rfl, hd, rfl, ?_⟩
      exact ⟨_, rfl, q _ _ (Int.emod_nonneg _ (by omega)) (Int.emod_lt_of_pos _ hm0) ⟨n, k, _, upd_same⟩ fun b e => upd_ne e⟩
    · refine ⟨_, rfl, d, _, _, _, rfl, rfl, SqL.of hd, at1 _ _ _ _, _, rfl, d, _, _, _, rfl, rfl, SqL.of hd, at2 _ _ _ _, ?_⟩
      refine ⟨_, rfl, d, _, _, _, rfl, rfl, SqL.of hd, at1 _ _ _ _, a, _, rfl, .inl hS, _, _, rfl, ?_⟩
      have hM : (0 : Int) < (if (((ns.map V.int).length : Nat) : Int) > 1 then (((ns.map V.int).length : Nat) : Int) else 1) := by
        split <;> omega
      refine ⟨_, _, rfl, rfl, hM, ?_⟩
      refine ⟨a, ns, _, rfl, Int.emod_nonneg _ (by omega), hS, fun v => ⟨v, rfl, ?_⟩⟩
      refine ⟨_, rfl, d, _, _, _, rfl, rfl, SqL.of hd, at2 _ _ _ _, _, _, rfl, rfl, _, rfl, d, _, _, 2, rfl, rfl, hd, rfl, ?_⟩
      refine ⟨_, rfl, d, _, _, _, rfl, rfl, SqL.of upd_same, at0 _ _ _ _, _, _, rfl, rfl, .inr ⟨by decide, by decide⟩, _, _, rfl, rfl, ?_⟩
      refine ⟨_, rfl, _, _, rfl, rfl, _, _, rfl, rfl, (by show (0 : Int) < 2147483647; decide), _, rfl, d, _, _, 0, rfl, rfl, upd_same, rfl, ?_⟩
      refine ⟨_, rfl, d, _, _, _, rfl, rfl, SqL.of upd_same, at0 _ _ _ _, _, _, rfl, rfl, ⟨by decide, by decide⟩, _, rfl, _, _, rfl, rfl, hm0, ?_⟩
      exact q _ _ (Int.emod_nonneg _ (by omega)) (Int.emod_lt_of_pos _ hm0) ⟨_, _, _, upd_same⟩ fun b e => by rw [upd_ne e, upd_ne e]
end

section
variable {P : Program} {w : World} {K : PySem.W.Frag} {mg : Str → Option Value} {base : Heap} {tL : Tok}
abbrev N_packed : List Str := ["row", "told", "number"]
theorem sc_packed : FnScope N_packed ["row"] (defScope s_packed) := ⟨rfl, rfl, rfl, by decide +kernel, rfl, by decide +kernel, by decide +kernel⟩
theorem ok_packed {f : Addr} {fd : FuncData} (F : Fun K "packed" "packed" s_packed f fd) (T : Txt K mg tL) : FnOk P w K mg base CX0 1 f fd ["row"] (spPacked K) := by
  refine F.ok sc_packed (fun vs H Q E h => ?_) (fun cdv A outer s H vs Q E hr h => ?_)
  · obtain ⟨a, row, rfl, _⟩ := h
    rfl
  · obtain ⟨a, row, rfl, hS, h6, q⟩ := h
    refine ⟨_, (pss_cons (ps_set (i := 1) sc_packed.nd rfl (Or.inl rfl) pe_int)
      (pss_cons (ps_for PassesOwn.never rfl (pi_reversed (by rfl) T.reversed (pa_cons (pv 0) pa_nil)) (pg_name (i := 2) sc_packed.nd rfl (Or.inl rfl))
      (pss_cons (ps_if (PW.pt (pw_or (pt_cmpR op_lt (pv 2) pe_int (nomark _)) (pw_or1 (pt_cmpR op_ge (pv 2) (pe_glob (v := .int 1000000) rfl T.m_LIMIT ⟨_, rfl⟩) (nomark _)))))
      (pss_one ps_never)
      pss_nil)
      (pss_one (ps_set (i := 1) sc_packed.nd rfl (Or.inl rfl) (pe_op op_add (pv 2) (pe_op op_mul (pe_glob (v := .int 1000000) rfl T.m_LIMIT ⟨_, rfl⟩) (pv 1)))))))
      (pss_one (ps_ret (pv 1))))), ?_⟩
    refine ⟨_, rfl, a, _, rfl, hS, ?_⟩
    refine RT.for_Itv (K := K) (a := a) (xs := row.map V.int) (fun i σ H' => H' = H ∧ ∃ v, σ = [some (.ref a), some (.int (Sd.enc (row.drop (row.length - i)))), v]) ?_ ?_ ?_ ?_
    · refine ⟨rfl, none, ?_⟩
      rw [Nat.sub_zero, List.drop_length]
      rfl
    · rintro i σ H' ⟨rfl, _⟩
      exact hS
    · rintro i x σ H' hi hx ⟨rfl, v, rfl⟩
      rw [List.length_map] at hi hx
      obtain ⟨y, hy, rfl⟩ := Sd.ints_got hx
      have hb := h6.get hy
      refine ⟨_, rfl, _, _, rfl, rfl, _, rfl, ?_⟩
      refine ite2 (fun c => absurd (of_decide_eq_true c) (by omega)) (fun _ => ?_)
      refine ⟨_, rfl, _, _, rfl, rfl, _, rfl, ?_⟩
      refine ite2 (fun c => absurd (of_decide_eq_true c) (by omega)) (fun _ => ?_)
      refine ⟨_, rfl, _, rfl, _, _, rfl, rfl, .inl ⟨by decide, by decide⟩, _, _, rfl, rfl, ?_⟩
      refine ⟨rfl, some (.int y), ?_⟩
      have e1 : row.length - (i + 1) = row.length - 1 - i := by omega
      have e2 : row.length - 1 - i + 1 = row.length - i := by omega
      have e := Sd.enc_drop hy
      rw [e2] at e
      rw [e1, e]
      rfl
    · rintro σ H' ⟨rfl, v, rfl⟩
      rw [List.length_map, Nat.sub_self]
      exact ⟨_, rfl, q⟩
abbrev N_parted : List Str := ["number", "row", "rest"]
theorem sc_parted : FnScope N_parted ["number"] (defScope s_parted) := ⟨rfl, rfl, rfl, by decide +kernel, rfl, by decide +kernel, by decide +kernel⟩
theorem ok_parted {f : Addr} {fd : FuncData} (F : Fun K "parted" "parted" s_parted f fd) (T : Txt K mg tL) : FnOk P w K mg base CX0 1 f fd ["number"] spParted := by
  refine F.ok sc_parted (fun vs H Q E h => ?_) (fun cdv A outer s H vs Q E hr h => ?_)
  · obtain ⟨n, row, rfl, _⟩ := h
    rfl
  · obtain ⟨n, row, rfl, h6, hl, hn, q⟩ := h
    refine ⟨_, (pss_cons (ps_set (i := 1) sc_parted.nd rfl (Or.inl rfl) (pe_lst pa_nil))
      (pss_cons (ps_set (i := 2) sc_parted.nd rfl (Or.inl rfl) (pv 0))
      (pss_cons (ps_while PassesOwn.never (pt_cmpR op_gt (pv 2) pe_int (nomark _))
      (pss_cons (ps_expr (pe_bm PySem.F.plainAttrs_list PySem.F.slot_list_append PySem.F.type_list_append mt_append (pv 1) (pa_cons (pe_op op_mod (pv 2) (pe_glob (v := .int 1000000) rfl T.m_LIMIT ⟨_, rfl⟩)) pa_nil)))
      (pss_one (ps_set (i := 2) sc_parted.nd rfl (Or.inl rfl) (pe_op op_fdiv (pv 2) (pe_glob (v := .int 1000000) rfl T.m_LIMIT ⟨_, rfl⟩))))))
      (pss_one (ps_ret (pv 1)))))), ?_⟩
    refine ⟨Nat.zero_le _, fun p hp => ⟨_, rfl, ?_⟩⟩
    refine ⟨fun m σ H' => ∃ (k : Nat) (r : Int), m = row.length - k ∧ k ≤ row.length ∧ σ = [some (.int n), some (.ref p), some (.int r)] ∧ (r = Sd.enc (row.drop k) ∨ (r = 0 ∧ row = [])) ∧ (∀ b, b ≠ p → H' b = H b) ∧ H' p = some (.lst ((row.take k).map V.int)),
      ⟨_, 0, n, rfl, Nat.zero_le _, rfl, hn, fun b e => upd_ne e, upd_same⟩, ?_⟩
    rintro m σ H' ⟨k, r, rfl, hk, rfl, hr', hb, hL⟩
    refine ⟨_, rfl, _, _, rfl, rfl, _, rfl, ?_⟩
    refine ite2 (fun c => ?_) (fun c => ?_)
    · have c' := of_decide_eq_true c
      have hk2 : k < row.length := by
        rcases hr' with e | ⟨e, _⟩
        · by_cases z : k < row.length
          · exact z
          · have e0 : row.drop k = [] := List.drop_eq_nil_of_le (by omega)
            rw [e0] at e
            rw [e] at c'
            exact absurd c' (by decide)
        · rw [e] at c'
          exact absurd c' (by decide)
      have hr2 : r = Sd.enc (row.drop k) := by
        rcases hr' with e | ⟨_, e⟩
        · exact e
        · rw [e] at hk2
          exact absurd hk2 (Nat.not_lt_zero _)
      have hg : row[k]? = some row[k] := List.getElem?_eq_getElem hk2
      have hd := Sd.drop_at hg
      have hi : Sd.In6 (row[k] :: row.drop (k + 1)) := by
        rw [← hd]
        exact h6.drop k
      have em : r % 1000000 = row[k] := by
        rw [hr2, hd]
        exact Sd.enc_mod hi
      have ed : r / 1000000 = Sd.enc (row.drop (k + 1)) := by
        rw [hr2, hd]
        exact Sd.enc_div hi
      refine ⟨_, fun σ' H2 z => z, ?_⟩
      refine ⟨_, rfl, .inl ⟨rfl, _, SqL.of hL⟩, _, rfl, _, _, rfl, rfl, (by show (0 : Int) < 1000000; decide), p, _, _, rfl, rfl, hL, ?_, ?_⟩
      · rw [List.length_map, List.length_take]
        exact small1000 (by omega)
      · refine ⟨_, rfl, _, _, rfl, rfl, ⟨by decide, by decide⟩, ?_⟩
        refine ⟨row.length - (k + 1), by omega, k + 1, _, rfl, hk2, rfl, .inl ed, fun b e => ?_, ?_⟩
        · rw [upd_ne e]
          exact hb b e
        · rw [upd_same]
          show some (HO.lst (List.map V.int (List.take k row) ++ [V.int (r % 1000000)])) = _
          rw [em, Sd.take_at hg, List.map_append]
          rfl
    · have c' : ¬ (1 < r) := fun z => c (decide_eq_true z)
      refine ⟨_, rfl, q p hp H' (fun b o e => ?_) ?_⟩
      · rw [hb b (ne_of_none e hp)]
        exact e
      · rw [hL]
        have ek : row.take k = row := by
          rcases hr' with e | ⟨_, e⟩
          · by_cases z : k < row.length
            · have hg : row[k]? = some row[k] := List.getElem?_eq_getElem z
              have hd := Sd.drop_at hg
              have hi : Sd.In6 (row[k] :: row.drop (k + 1)) := by
                rw [← hd]
                exact h6.drop k
              have z2 := Sd.enc_big hi
              rw [← hd, ← e] at z2
              exact absurd z2 c'
            · exact List.take_of_length_le (by omega)
          · rw [e]
            exact List.take_nil
        rw [ek]
abbrev N_law : List Str := ["_law_script", "_law_many", "_law_row", "_law_d", "_law_due", "_law_number", "_law_handed", "_law_found", "_law_told", "_law_k"]
theorem sc_law : FnScope N_law ["_law_script"] (defScope s_law) := ⟨rfl, rfl, rfl, by decide +kernel, rfl, by decide +kernel, by decide +kernel⟩
theorem ok_law {f : Addr} {fd : FuncData} (F : Fun K "law" "law" s_law f fd) (T : Txt K mg tL)
    (C_l_cell : Sd.Cal P w K mg base CX0 1 "_law_cell" ["_law_script", "_law_k"] (Sd.spCell K)) (C_l_dice : Sd.Cal P w K mg base CX0 2 "_law_dice" ["_law_script", "_law_k"] (Sd.spDice K))
    (C_l_off : Sd.Cal P w K mg base CX0 2 "_law_off" ["_law_d", "_law_most"] (Sd.spOff K)) (C_packed : Sd.Cal P w K mg base CX0 1 "packed" ["row"] (spPacked K)) (C_parted : Sd.Cal P w K mg base CX0 1 "parted" ["number"] spParted) :
    FnOk P w K mg base CX0 4 f fd ["_law_script"] (spLaw K) := by
  refine F.ok sc_law (fun vs H Q E h => ?_) (fun cdv A outer s H vs Q E hr h => ?_)
  · obtain ⟨a, ns, rfl, _⟩ := h
    rfl
  · obtain ⟨a, ns, rfl, hS, hlen, q⟩ := h
    refine ⟨_, (pss_cons (ps_set (i := 1) sc_law.nd rfl (Or.inl rfl) (pe_op op_mod (pe_callB call_abs (by rfl) T.abs (by decide +kernel) (pa_cons (Sd.pe_fn C_l_cell (hr.mono (by decide)) pass0 (pa_cons (pv 0) (pa_cons pe_int pa_nil))) pa_nil)) pe_int))
      (pss_cons (ps_setLc (i := 2) (own := [("_law_k", 9)]) (g := gName 9) (by rfl) sc_law.nd rfl rfl (sw_true rfl rfl rfl (by decide +kernel)) (pi_range1 rfl T.range (pa_cons (pv 1) pa_nil)) (blkOk_by (own := [("_law_k", 9)]) (N := N_law) (sc := defScope s_law) (by decide +kernel)) (fun _ _ _ _ _ => pg_name (i := 9) sc_law.nd rfl (Or.inl rfl)) (fun _ _ _ _ _ => pts_nil) (fun _ _ _ _ _ => (pe_op op_mod (pe_callB call_abs (by rfl) T.abs (by decide +kernel) (pa_cons (Sd.pe_fn C_l_cell (hr.mono (by decide)) pass0 (pa_cons (pv 0) (pa_cons (pe_op op_add pe_int (pv 9)) pa_nil))) pa_nil)) pe_int)))
      (C8.pss_cut (ps_if (pt_cmpR op_eq (pe_op op_mod (pe_op op_fdiv (pe_callB call_abs (by rfl) T.abs (by decide +kernel) (pa_cons (Sd.pe_fn C_l_cell (hr.mono (by decide)) pass0 (pa_cons (pv 0) (pa_cons pe_int pa_nil))) pa_nil)) pe_int) pe_int) pe_int (nomark _))
      (pss_cons (ps_set (i := 3) sc_law.nd rfl (Or.inr rfl) (Sd.pe_fn C_l_dice (hr.mono (by decide)) pass0 (pa_cons (pv 0) (pa_cons pe_int pa_nil))))
      (pss_one (ps_setLc (i := 2) (own := [("_law_k", 9)]) (g := gName 9) (by rfl) sc_law.nd rfl rfl (sw_true rfl rfl rfl (by decide +kernel)) (pi_range1 rfl T.range (pa_cons pe_int pa_nil)) (blkOk_by (own := [("_law_k", 9)]) (N := N_law) (sc := defScope s_law) (by decide +kernel)) (fun _ _ _ _ _ => pg_name (i := 9) sc_law.nd rfl (Or.inl rfl)) (fun _ _ _ _ _ => pts_nil) (fun _ _ _ _ _ => (Sd.pe_fn C_l_off (hr.mono (by decide)) pass0 (pa_cons (pv 3) (pa_cons pe_int pa_nil)))))))
      pss_nil)
      (pss_cons (ps_set (i := 4) sc_law.nd rfl (Or.inl rfl) pe_int)
      (pss_cons (ps_for PassesOwn.never rfl (pi_reversed (by rfl) T.reversed (pa_cons (pv 2) pa_nil)) (pg_name (i := 5) sc_law.nd rfl (Or.inl rfl))
      (pss_one (ps_set (i := 4) sc_law.nd rfl (Or.inl rfl) (pe_op op_add (pe_op op_mul (pv 4) pe_int) (pv 5)))))
      (pss_cons (ps_set (i := 6) sc_law.nd rfl (Or.inl rfl) (pe_callTy call_list_of (by rfl) T.list (by decide +kernel) (pa_cons (pv 2) pa_nil)))
      (pss_cons (ps_set (i := 7) sc_law.nd rfl (Or.inl rfl) (Sd.pe_fn C_packed (hr.mono (by decide)) pass0 (pa_cons (pv 6) pa_nil)))
      (pss_cons (ps_if (PW.pt (pw_or (pt_val (pe_callB call_isi (by rfl) T.isinstance (by decide +kernel) (pa_cons (pv 7) (pa_cons (pe_bltn (v := .ty "bool") (u := .type "bool") (by rfl) T.bool (by decide +kernel) rfl) pa_nil)))) (pw_or (pt_not (pt_val (pe_callB call_isi (by rfl) T.isinstance (by decide +kernel) (pa_cons (pv 7) (pa_cons (pe_bltn (v := .ty "int") (u := .type "int") (by rfl) T.int (by decide +kernel) rfl) pa_nil))))) (pw_or (pt_cmpR op_ne (pv 7) (pv 4) (nomark _)) (pw_or1 (pt_cmpR (op_neD hr.units) (pv 6) (pv 2) (nomark _)))))))
      (pss_one (ps_ret pe_bl))
      pss_nil)
      (pss_cons (ps_set (i := 8) sc_law.nd rfl (Or.inl rfl) (Sd.pe_fn C_parted (hr.mono (by decide)) pass0 (pa_cons (pv 7) pa_nil)))
      (pss_cons (ps_if (PW.pt (pw_or (pt_not (pt_val (pe_callB call_isi (by rfl) T.isinstance (by decide +kernel) (pa_cons (pv 8) (pa_cons (pe_bltn (v := .ty "list") (u := .type "list") (by rfl) T.list (by decide +kernel) rfl) pa_nil))))) (pw_or1 (pt_cmpR (op_neD hr.units) (pv 8) (pv 2) (nomark _)))))
      (pss_one (ps_ret pe_bl))
      pss_nil)
      (pss_cons (ps_for PassesOwn.never rfl (pi_list (pv 8)) (pg_name (i := 5) sc_law.nd rfl (Or.inl rfl))
      (pss_one (ps_if (PW.pt (pw_or (pt_val (pe_callB call_isi (by rfl) T.isinstance (by decide +kernel) (pa_cons (pv 5) (pa_cons (pe_bltn (v := .ty "bool") (u := .type "bool") (by rfl) T.bool (by decide +kernel) rfl) pa_nil)))) (pw_or1 (pt_not (pt_val (pe_callB call_isi (by rfl) T.isinstance (by decide +kernel) (pa_cons (pv 5) (pa_cons (pe_bltn (v := .ty "int") (u := .type "int") (by rfl) T.int (by decide +kernel) rfl) pa_nil))))))))
      (pss_one (ps_ret pe_bl))
      pss_nil)))
      (pss_cons (ps_expr (pe_bm PySem.F.plainAttrs_list PySem.F.slot_list_append PySem.F.type_list_append mt_append (pv 8) (pa_cons pe_int pa_nil)))
      (pss_one (ps_ret (pe_and (pe_cmpR (op_eqD hr.units) (Sd.pe_fn C_parted (hr.mono (by decide)) pass0 (pa_cons (pv 7) pa_nil)) (pv 2) (nomark _)) (pe_and (pe_cmpR (op_eqD hr.units) (Sd.pe_fn C_parted (hr.mono (by decide)) pass0 (pa_cons pe_int pa_nil)) (pe_lst pa_nil) (nomark _)) (pe_one (pe_cmpR op_eq (Sd.pe_fn C_packed (hr.mono (by decide)) pass0 (pa_cons (pe_lst pa_nil) pa_nil)) pe_int (nomark _))))))))))))))))))), ?_⟩
    -- how many
    refine ⟨_, rfl, a, ns, 0, rfl, by decide, hS, fun v0 => ⟨v0, rfl, _, _, rfl, rfl, (by show (0 : Int) < 13; decide), ?_⟩⟩
    dsimp only
    generalize hN : (if v0 < 0 then -v0 else v0) % 13 = many
    have hN0 : 0 ≤ many := by rw [← hN]; exact Int.emod_nonneg _ (by decide)
    have hN1 : many < 13 := by rw [← hN]; exact Int.emod_lt_of_pos _ (by decide)
    -- the row by the script's own
    refine ⟨_, rfl, many, rfl, by omega, by omega, fun D hD => ?_⟩
    refine lc_range (lo := 0) (n := many.toNat) (fun i H' => Same H H' ∧ ∃ l : List Int, H' D = some (.lst (l.map V.int)) ∧ l.length = i ∧ Sd.In6 l) ⟨Sd.Same.new hD, [], upd_same, rfl, Sd.In6.nil⟩ ?_ ?_
    · rintro i H' hi ⟨hs, l, hL, hl, h6⟩
      refine ⟨rfl, _, rfl, _, rfl, _, _, rfl, rfl, a, ns, _, rfl, by omega, hs.seq hS, fun v => ⟨v, rfl, _, _, rfl, rfl, (by show (0 : Int) < 1000000; decide), ?_⟩⟩
      refine ⟨_, hL, by rw [List.length_map, hl]; exact small1000 (by omega), fun b o e => ?_, l ++ [(if v < 0 then -v else v) % 1000000], ?_, ?_, ?_⟩
      · rw [upd_ne (ne_of_none e hD)]
        exact hs b o e
      · rw [upd_same, List.map_append]
        rfl
      · rw [List.length_append, hl]
        rfl
      · intro x hx
        rcases List.mem_append.mp hx with z | z
        · exact h6 x z
        · rw [List.mem_singleton] at z
          rw [z]
          exact ⟨Int.emod_nonneg _ (by decide), Int.emod_lt_of_pos _ (by decide)⟩
    rintro H1 ⟨s1, l1, hL1, hl1, h61⟩
    -- or the draws' row
    refine ⟨fun σ' H' => ∃ (r : Addr) (l : List Int) (y : Option V), σ' = [some (.ref a), some (.int many), some (.ref r), y, none, none, none, none, none, none] ∧ H' r = some (.lst (l.map V.int)) ∧ l.length ≤ 100 ∧ Sd.In6 l, ?_, ?_⟩
    · refine ⟨_, rfl, a, ns, 0, rfl, by decide, s1.seq hS, fun v => ⟨v, rfl, _, _, rfl, rfl, ⟨by decide, by decide⟩, _, _, rfl, rfl, (by show (0 : Int) < 4; decide), rfl, _, rfl, ?_⟩⟩
      refine ite2 (fun _ => ?_) (fun _ => ?_)
      · refine ⟨_, rfl, a, ns, 1, rfl, by decide, s1.seq hS, fun d H2 hd s2 b2 D2 o2 => ?_⟩
        have S2 : SqL K H2 a (ns.map V.int) := s2.seq (s1.seq hS)
        refine ⟨100, rfl, by decide, by decide, fun D' hD' => ?_⟩
        have nd : d ≠ D' := D2.ne hD'
        refine lc_range (lo := 0) (n := 100) (fun i H' => (∀ b, b ≠ d → b ≠ D' → H' b = H2 b) ∧ Sd.Dice H' d a ∧ SqL K H' a (ns.map V.int) ∧ ∃ l : List Int, H' D' = some (.lst (l.map V.int)) ∧ l.length = i ∧ Sd.In6 l)
          ⟨fun b _ e => upd_ne e, D2.same (Sd.Same.new hD'), (Sd.Same.new hD').seq S2, [], upd_same, rfl, Sd.In6.nil⟩ ?_ ?_
        · rintro i H' hi ⟨hb, hD1, hS1, l, hL, hl, h6⟩
          refine ⟨rfl, _, rfl, d, a, ns, 1000000, rfl, hD1, hS1, by decide, by decide, fun r H3 r0 r1 D3 o3 => ?_⟩
          have hL3 : H3 D' = some (.lst (l.map V.int)) := by rw [o3 D' nd.symm]; exact hL
          have b3 : Sd.But d H' H3 := fun b o n e => by rw [o3 b n]; exact e
          refine ⟨_, hL3, by rw [List.length_map, hl]; exact small1000 (by omega), fun b n1 n2 => ?_, D3.but Sd.But.upd nd, ?_, l ++ [r], ?_, ?_, ?_⟩
          · rw [upd_ne n2, o3 b n1]
            exact hb b n1 n2
          · have S3 := hD1.seq b3 hS1
            exact Sd.SqL.upd0 S2 hD' S3
          · rw [upd_same, List.map_append]
            rfl
          · rw [List.length_append, hl]
            rfl
          · intro x hx
            rcases List.mem_append.mp hx with z | z
            · exact h6 x z
            · rw [List.mem_singleton] at z
              rw [z]
              exact ⟨r0, r1⟩
        · rintro H' ⟨_, _, _, l, hL, hl, h6⟩
          exact ⟨D', l, _, rfl, hL, by omega, h6⟩
      · exact ⟨D, l1, _, rfl, hL1, by omega, h61⟩
    rintro σ H2 ⟨r, row, y, rfl, hR, hlen2, h6⟩
    have hlen3 : row.length ≤ 1000 := by omega
    -- what it is packed to, reckoned here
    refine ⟨_, rfl, r, _, rfl, SqL.of hR, ?_⟩
    refine RT.for_Itv (K := K) (a := r) (xs := row.map V.int) (fun i σ H' => H' = H2 ∧ ∃ v, σ = [some (.ref a), some (.int many), some (.ref r), y, some (.int (Sd.enc (row.drop (row.length - i)))), v, none, none, none, none]) ?_ ?_ ?_ ?_
    · refine ⟨rfl, none, ?_⟩
      rw [Nat.sub_zero, List.drop_length]
      rfl
    · rintro i σ H' ⟨rfl, _⟩
      exact SqL.of hR
    · rintro i x σ H' hi hx ⟨rfl, v, rfl⟩
      rw [List.length_map] at hi hx
      obtain ⟨z, hz, rfl⟩ := Sd.ints_got hx
      refine ⟨_, rfl, _, _, rfl, rfl, .inr ⟨by decide, by decide⟩, _, rfl, _, _, rfl, rfl, ?_⟩
      refine ⟨rfl, some (.int z), ?_⟩
      have e1 : row.length - (i + 1) = row.length - 1 - i := by omega
      have e2 : row.length - 1 - i + 1 = row.length - i := by omega
      have e := Sd.enc_drop hz
      rw [e2] at e
      rw [e1, e, Int.add_comm, Int.mul_comm]
      rfl
    rintro σ H' ⟨rfl, v, rfl⟩
    rw [List.length_map, Nat.sub_self, List.drop_zero]
    -- handed, found
    refine ⟨_, rfl, r, _, rfl, .inl (SqL.of hR), fun g hg => ?_⟩
    have hRg : upd H' g (.lst (row.map V.int)) r = some (.lst (row.map V.int)) := Sd.Same.new hg _ _ hR
    refine ⟨_, rfl, g, row, rfl, SqL.of upd_same, h6, ?_⟩
    refine ⟨_, rfl, _, _, _, _, false, rfl, .ty _, Sd.ty_int, kit_ty (by decide +kernel), false, rfl, ?_⟩
    refine ⟨_, rfl, _, _, _, _, true, rfl, .ty _, Sd.ty_int, kit_ty (by decide +kernel), true, rfl, ?_⟩
    refine ⟨_, rfl, _, rfl, rfl, _, rfl, iteNS rfl ?_⟩
    refine ⟨_, rfl, _, rfl, Sd.dInts row, Sd.dInts row, Sd.dInts_dp (SqL.of upd_same), Sd.dInts_dp (SqL.of hRg), Sd.dInts_shaped row, Sd.dInts_shaped row, _, rfl, Sd.if_no (Sd.eqv_ints _) ?_⟩
    -- told
    refine ⟨_, rfl, Sd.enc row, row, rfl, h6, hlen3, .inl rfl, fun p hp H3 s3 hL3 => ?_⟩
    have hR3 := s3 _ _ hRg
    refine ⟨_, rfl, _, _, _, _, true, rfl, .ty _, (Sd.ty_lst hL3), kit_ty (by decide +kernel), true, rfl, ?_⟩
    refine ⟨_, rfl, _, rfl, Sd.dInts row, Sd.dInts row, Sd.dInts_dp (SqL.of hL3), Sd.dInts_dp (SqL.of hR3), Sd.dInts_shaped row, Sd.dInts_shaped row, _, rfl, Sd.if_no (Sd.eqv_ints _) ?_⟩
    refine ⟨_, rfl, p, rfl, ⟨_, SqL.of hL3⟩, ?_⟩
    refine for_list (K := K) (a := p) (xs := row.map V.int) (fun i σ H' => H' = H3 ∧ ∃ v, σ = [some (.ref a), some (.int many), some (.ref r), y, some (.int (Sd.enc row)), v, some (.ref g), some (.int (Sd.enc row)), some (.ref p), none])
      ⟨rfl, _, rfl⟩ (fun i σ H' _ ⟨e, _⟩ => by rw [e]; exact SqL.of hL3) ?_ ?_
    · rintro i x σ H4 hx ⟨rfl, v, rfl⟩
      obtain ⟨z, hz, rfl⟩ := Sd.ints_got hx
      refine ⟨_, rfl, _, _, _, _, false, rfl, .ty _, Sd.ty_int, kit_ty (by decide +kernel), false, rfl, ?_⟩
      refine ⟨_, rfl, _, _, _, _, true, rfl, .ty _, Sd.ty_int, kit_ty (by decide +kernel), true, rfl, ?_⟩
      exact ⟨rfl, _, rfl⟩
    rintro σ H4 ⟨rfl, v, rfl⟩
    have npr : r ≠ p := ne_of_none hRg hp
    refine ⟨_, rfl, .inl ⟨rfl, _, SqL.of hL3⟩, p, _, _, rfl, rfl, hL3, by rw [List.length_map]; exact small1000 hlen3, ?_⟩
    have hR4 : upd H4 p (.lst (row.map V.int ++ [V.int 5])) r = some (.lst (row.map V.int)) := by rw [upd_ne npr]; exact hR3
    refine ⟨_, rfl, Sd.enc row, row, rfl, h6, hlen3, .inl rfl, fun p2 hp2 H5 s5 hL5 => ?_⟩
    refine ⟨_, rfl, Sd.dInts row, Sd.dInts row, Sd.dInts_dp (SqL.of hL5), Sd.dInts_dp (SqL.of (s5 _ _ hR4)), Sd.dInts_shaped row, Sd.dInts_shaped row, _, rfl, Sd.if_yes (Sd.eqv_ints _) ?_⟩
    refine ⟨0, [], rfl, Sd.In6.nil, Nat.zero_le _, .inr ⟨rfl, rfl⟩, fun p3 hp3 H6 s6 hL6 => ?_⟩
    refine ⟨Nat.zero_le _, fun p4 hp4 => ?_⟩
    refine ⟨Sd.dInts [], Sd.dInts [], Sd.dInts_dp (SqL.of (Sd.Same.new hp4 _ _ hL6)), Sd.dInts_dp (SqL.of upd_same), Sd.dInts_shaped [], Sd.dInts_shaped [], _, rfl, Sd.if_yes (Sd.eqv_ints _) ?_⟩
    refine ⟨Nat.zero_le _, fun p5 hp5 => ?_⟩
    exact ⟨p5, [], rfl, SqL.of upd_same, Sd.In6.nil, rfl, q _⟩
end
theorem all_mk {l : PySem.W.OpenLaw} {w : World} {K : PySem.W.Frag} {h : Heap} {mg : Str → Option Value} {fa f1 f2 f3 f4 f5 f6 : Addr} {tL : Tok} (X : K.In h) (G : h.Ns mainGlobals mg) (hfa : mg "law" = some (.ref fa))
    {od1 an1 od2 an2 od3 an3 od4 an4 od5 an5 od6 an6 : Option Addr} {sl1 sl2 sl3 sl4 sl5 sl6 : Array (Option Value)} {oc1 kV1 dc1 pm1 cd1 ct1 oc2 kV2 dc2 pm2 cd2 ct2 oc3 kV3 dc3 pm3 cd3 ct3 oc4 kV4 dc4 pm4 cd4 ct4 oc5 kV5 dc5 pm5 cd5 ct5 oc6 kV6 dc6 pm6 cd6 ct6 : Value}
    (a1 : PySem.W.nsIn K mainGlobals "_law_cell" = some (some (.ref f1)))
    (l1 : K.lookup f1 = some ⟨oc1, od1, .func (PySem.W.fnOf "_law_cell" "_law_cell" (defArgs s_l_cell) (defBody s_l_cell) (defScope s_l_cell) .none kV1 dc1 pm1 an1 cd1 ct1), sl1⟩)
    (c1 : PySem.W.codeIn K cd1 "_law_cell" = true)
    (k1 : PySem.W.keepIn K (.ref f1) = true)
    (a2 : PySem.W.nsIn K mainGlobals "_law_dice" = some (some (.ref f2)))
    (l2 : K.lookup f2 = some ⟨oc2, od2, .func (PySem.W.fnOf "_law_dice" "_law_dice" (defArgs s_l_dice) (defBody s_l_dice) (defScope s_l_dice) .none kV2 dc2 pm2 an2 cd2 ct2), sl2⟩)
    (c2 : PySem.W.codeIn K cd2 "_law_dice" = true)
    (k2 : PySem.W.keepIn K (.ref f2) = true)
    (a3 : PySem.W.nsIn K mainGlobals "_law_off" = some (some (.ref f3)))
    (l3 : K.lookup f3 = some ⟨oc3, od3, .func (PySem.W.fnOf "_law_off" "_law_off" (defArgs s_l_off) (defBody s_l_off) (defScope s_l_off) .none kV3 dc3 pm3 an3 cd3 ct3), sl3⟩)
    (c3 : PySem.W.codeIn K cd3 "_law_off" = true)
    (k3 : PySem.W.keepIn K (.ref f3) = true)
    (a4 : PySem.W.nsIn K mainGlobals "packed" = some (some (.ref f4)))
    (l4 : K.lookup f4 = some ⟨oc4, od4, .func (PySem.W.fnOf "packed" "packed" (defArgs s_packed) (defBody s_packed) (defScope s_packed) .none kV4 dc4 pm4 an4 cd4 ct4), sl4⟩)
    (c4 : PySem.W.codeIn K cd4 "packed" = true)
    (k4 : PySem.W.keepIn K (.ref f4) = true)
    (a5 : PySem.W.nsIn K mainGlobals "parted" = some (some (.ref f5)))
    (l5 : K.lookup f5 = some ⟨oc5, od5, .func (PySem.W.fnOf "parted" "parted" (defArgs s_parted) (defBody s_parted) (defScope s_parted) .none kV5 dc5 pm5 an5 cd5 ct5), sl5⟩)
    (c5 : PySem.W.codeIn K cd5 "parted" = true)
    (k5 : PySem.W.keepIn K (.ref f5) = true)
    (a6 : PySem.W.nsIn K mainGlobals "law" = some (some (.ref f6)))
    (l6 : K.lookup f6 = some ⟨oc6, od6, .func (PySem.W.fnOf "law" "law" (defArgs s_law) (defBody s_law) (defScope s_law) .none kV6 dc6 pm6 an6 cd6 ct6), sl6⟩)
    (c6 : PySem.W.codeIn K cd6 "law" = true)
    (k6 : PySem.W.keepIn K (.ref f6) = true)
    (z_abs : PySem.W.nsIn K mainGlobals "abs" = some none)
    (z_len : PySem.W.nsIn K mainGlobals "len" = some none)
    (z_max : PySem.W.nsIn K mainGlobals "max" = some none)
    (z_int : PySem.W.nsIn K mainGlobals "int" = some none)
    (z_list : PySem.W.nsIn K mainGlobals "list" = some none)
    (z_bool : PySem.W.nsIn K mainGlobals "bool" = some none)
    (z_range : PySem.W.nsIn K mainGlobals "range" = some none)
    (z_reversed : PySem.W.nsIn K mainGlobals "reversed" = some none)
    (z_isinstance : PySem.W.nsIn K mainGlobals "isinstance" = some none)
    (g_LIMIT : PySem.W.nsIn K mainGlobals "LIMIT" = some (some (.int 1000000 tL)))
    : ∃ fd : FuncData, (∀ (s : Shared) (v : Value), BindsTo s fd ⟨[v], []⟩ [("_law_script", v)]) ∧ ∀ base : Heap, K.In base → base.Ns mainGlobals mg → FnOk l.prog w K mg base CX0 4 fa fd ["_law_script"] (spLaw K) := by
  have e := hfa.symm.trans (PySem.W.mg_of X G a6)
  cases e
  have T : Txt K mg tL :=
    { abs := PySem.W.mg_none_of X G z_abs,
      len := PySem.W.mg_none_of X G z_len,
      max := PySem.W.mg_none_of X G z_max,
      int := PySem.W.mg_none_of X G z_int,
      list := PySem.W.mg_none_of X G z_list,
      bool := PySem.W.mg_none_of X G z_bool,
      range := PySem.W.mg_none_of X G z_range,
      reversed := PySem.W.mg_none_of X G z_reversed,
      isinstance := PySem.W.mg_none_of X G z_isinstance,
      m_LIMIT := PySem.W.mg_of X G g_LIMIT }
  have F1 := fun_mk (st := s_l_cell) l1 c1 k1
  have B1 := F1.binds (ps := ["_law_script", "_law_k"]) fun _ _ _ _ _ _ us hl => match us, hl with | [_, _], _ => rfl
  have F2 := fun_mk (st := s_l_dice) l2 c2 k2
  have B2 := F2.binds (ps := ["_law_script", "_law_k"]) fun _ _ _ _ _ _ us hl => match us, hl with | [_, _], _ => rfl
  have F3 := fun_mk (st := s_l_off) l3 c3 k3
  have B3 := F3.binds (ps := ["_law_d", "_law_most"]) fun _ _ _ _ _ _ us hl => match us, hl with | [_, _], _ => rfl
  have F4 := fun_mk (st := s_packed) l4 c4 k4
  have B4 := F4.binds (ps := ["row"]) fun _ _ _ _ _ _ us hl => match us, hl with | [_], _ => rfl
  have F5 := fun_mk (st := s_parted) l5 c5 k5
  have B5 := F5.binds (ps := ["number"]) fun _ _ _ _ _ _ us hl => match us, hl with | [_], _ => rfl
  have F6 := fun_mk (st := s_law) l6 c6 k6
  have B6 := F6.binds (ps := ["_law_script"]) fun _ _ _ _ _ _ us hl => match us, hl with | [_], _ => rfl
  refine ⟨PySem.W.fnOf "law" "law" (defArgs s_law) (defBody s_law) (defScope s_law) .none kV6 dc6 pm6 an6 cd6 ct6, fun s v => .of_eq rfl, fun base _ _ => ?_⟩
  have C_l_cell : Sd.Cal l.prog w K mg base CX0 1 "_law_cell" ["_law_script", "_law_k"] (Sd.spCell K) := Sd.Cal.mk' F1 (PySem.W.mg_of X G a1) B1 (ok_l_cell F1 T.toDr)
  have C_l_dice : Sd.Cal l.prog w K mg base CX0 2 "_law_dice" ["_law_script", "_law_k"] (Sd.spDice K) := Sd.Cal.mk' F2 (PySem.W.mg_of X G a2) B2 (ok_l_dice F2 T.toDr C_l_cell)
  have C_l_off : Sd.Cal l.prog w K mg base CX0 2 "_law_off" ["_law_d", "_law_most"] (Sd.spOff K) := Sd.Cal.mk' F3 (PySem.W.mg_of X G a3) B3 (ok_l_off F3 T.toDr C_l_cell)
  have C_packed : Sd.Cal l.prog w K mg base CX0 1 "packed" ["row"] (spPacked K) := Sd.Cal.mk' F4 (PySem.W.mg_of X G a4) B4 (ok_packed F4 T)
  have C_parted : Sd.Cal l.prog w K mg base CX0 1 "parted" ["number"] (spParted) := Sd.Cal.mk' F5 (PySem.W.mg_of X G a5) B5 (ok_parted F5 T)
  exact ok_law F6 T C_l_cell C_l_dice C_l_off C_packed C_parted
theorem walk {l : PySem.W.OpenLaw} {q : Program} {loose : List Str} {XP : (Str → Option Value) → Heap → Prop} {YP : World → Heap → Prop} {d : DefRec} {K : Params → PySem.W.Frag} (hn : l.most = some 63) (hdf : d.params.defaults = [])
    (hY : ∀ (w : World) (h : Heap), YP w h → (K w.params).In h)
    (F : ∀ (w : World) (mg : Str → Option Value) (fa : Addr) (h : Heap), (K w.params).In h → h.Ns mainGlobals mg → mg d.name = some (.ref fa) →
      ∃ fd : FuncData, (∀ (s : Shared) (u : Value), BindsTo s fd ⟨[u], []⟩ [("_law_script", u)]) ∧ ∀ base : Heap, (K w.params).In base → base.Ns mainGlobals mg → FnOk l.prog w (K w.params) mg base CX0 4 fa fd ["_law_script"] (spLaw (K w.params))) :
    PySem.W.WalkO q loose XP YP l.row.toRowW d [] (fun f vs => PySem.call f vs) :=
  L2.walk_of (n := 63) (k := 4) (x := "_law_script") (CX := fun _ => CX0) (sp := fun w => spLaw (K w.params)) hn (by decide) hdf ⟨rfl, by decide, by decide⟩ hY F (fun _ _ a ns hl _ hS => ⟨a, ns, rfl, hS, hl, fun _ => rfl⟩) fun _ _ _ _ _ z => z
end K01
open PySem PySem.W PyProof.Rows in
set_option maxRecDepth 100000 in
set_option maxHeartbeats 0 in
theorem PySem.Challenge.cw_stillhands_k01_rows_as_one_holds : PySem.Challenge.rw_stillhands_k01_rows_as_one.Holds := by
  w_on; o_law; k_head; (case hw => w_witness2)
  k_fill
  refine K01.walk (l := PySem.Challenge.rw_stillhands_k01_rows_as_one) rfl rfl (fun w h Y => PySem.W.kIn_of Y) ?F
  case F =>
    intro w mg fa h KX G hmg
    refine' K01.all_mk KX G hmg ?a1 ?l1 ?c1 ?k1 ?a2 ?l2 ?c2 ?k2 ?a3 ?l3 ?c3 ?k3 ?a4 ?l4 ?c4 ?k4 ?a5 ?l5 ?c5 ?k5 ?a6 ?l6 ?c6 ?k6 ?z_abs ?z_len ?z_max ?z_int ?z_list ?z_bool ?z_range ?z_reversed ?z_isinstance ?g_LIMIT
    (case a1 => k_is)
    (case l1 => k_is)
    (case c1 => k_is)
    (case k1 => k_is)
    (case a2 => k_is)
    (case l2 => k_is)
    (case c2 => k_is)
    (case k2 => k_is)
    (case a3 => k_is)
    (case l3 => k_is)
    (case c3 => k_is)
    (case k3 => k_is)
    (case a4 => k_is)
    (case l4 => k_is)
    (case c4 => k_is)
    (case k4 => k_is)
    (case a5 => k_is)
    (case l5 => k_is)
    (case c5 => k_is)
    (case k5 => k_is)
    (case a6 => k_is)
    (case l6 => k_is)
    (case c6 => k_is)
    (case k6 => k_is)
    (case z_abs => k_is)
    (case z_len => k_is)
    (case z_max => k_is)
    (case z_int => k_is)
    (case z_list => k_is)
    (case z_bool => k_is)
    (case z_range => k_is)
    (case z_reversed => k_is)
    (case z_isinstance => k_is)
    (case g_LIMIT => k_is)
