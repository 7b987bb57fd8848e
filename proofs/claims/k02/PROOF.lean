import PyProof.Rows.All
import Wide.All
import OpenK.AllK
import Wide.FinOn
import HandS.ForMost
import HandS.Walk
import HandS.Flow
import HandS.Codes
import HandS.IsInst
import HandS.Conv
import HandS.StrMore
import PyProof.MeetsSeq2
import PyProof.DictTable
import HandS.Wide
import HandS.TupAny
import HandS.More
import HandS.Dict
import HandS.ForExc
import HandS.ExcIs
import HandS.ExcField
import HandS.DeepEq
import HandS.TupLe
import HandS.Steps
import HandS.ExcInit
import HandS.SortRule
import HandS.RaiseMore
import PySem.Challenge.RW_oathledger_k02_quorums_meet
set_option Elab.async false
set_option linter.all false
set_option maxRecDepth 100000
set_option maxHeartbeats 4000000
namespace Law
open PySem PySem.Spec PyProof.Rows L2
open C8 (Cal Met Mak pe_c pe_mk pe_mt pe_mt0 pe_gc pss_cut tCut)
/-! ### a def of the top, by its name -/
structure DefOk (K : PySem.W.Frag) (mg : Str → Option Value) (x : Str) (st : Stmt) (ps : List Str) : Prop where
  ex : ∃ (f : Addr) (fd : FuncData), L2.Fun K x x st f fd ∧ mg x = some (.ref f) ∧ Binds K fd ps []
section
variable {P : Program} {w : World} {K : PySem.W.Frag} {mg : Str → Option Value} {base : Heap}
/-- a def's promise, by its body -/
theorem cal {x : Str} {st : Stmt} {N ps : List Str} {k : Nat} {sp : Sp} (D : DefOk K mg x st ps) (S : FnScope N ps (defScope st)) (len : ∀ vs H Q E, sp vs H Q E → vs.length = ps.length)
    (hbody : ∀ (f : Addr) (cdv : Value) (A : Around) (outer : List Env) (s : Shared) (H : Hp) (vs : List V) (Q : VK) (E : XK), Room k (A.deeper (envOfC x (defScope st) s.heap.objs.size f cdv)) → sp vs H Q E →
      ∃ t, PSs (cxOf L2.CX0 P w K mg base N x (defScope st) f cdv A outer s H E).nox (defBody st) t ∧ t { nx := fun _ H' => Q .non H', rt := Q } (start N vs) H) : Cal P w K mg base (k + 1) x sp [] := by
  obtain ⟨f, fd, F, hm, b⟩ := D.ex
  exact ⟨f, fd, ps, [], F.ok S len (fun cdv A outer s H vs Q E hr h => hbody f cdv A outer s H vs Q E hr h), hm, F.kp, b, .nil⟩
/-- a call without arguments -/
theorem pe_c0 {X : Cx} {k j : Nat} {x : Str} {sp : Sp} {dvs : List V} {p pos : Pos} (c : Cal X.prog X.w X.K X.mg X.base k x sp dvs) (hr : Room j X.A) (hk : k ≤ j) (hg : Gl X x)
    (hdb : (x == ("__debug__" : Str)) = false := by decide) : PE X (.Call (.Name x p) [] [] pos) (tCall sp dvs L2.E0 tNil) := by
  obtain ⟨f, fd, ps, ds, F, hm, kp, b, d⟩ := c.ex
  exact pe_call0 F (hr.mono hk) hg hm kp b d pass0 hdb
end
/-! ### small things -/
theorem same_upd {H : Hp} {p : Addr} {o : HO} (h : H p = none) : Same H (upd H p o) := fun b x e => by
  rw [upd_ne (ne_of_none e h)]
  exact e
theorem same_mut {H H' : Hp} {p : Addr} {o : HO} (s : Same H H') (h : H p = none) : Same H (upd H' p o) := fun b x e => by
  rw [upd_ne (ne_of_none e h)]
  exact s b x e
theorem sz1000 {n : Nat} (h : n ≤ 100000) : n ≤ sizeLine := Nat.le_trans h (by decide)
theorem sz1000' {n : Nat} (h : n < 100000) : n < sizeLine := Nat.lt_of_lt_of_le h (by decide)
theorem sz1000'' {n : Nat} (h : n ≤ 16777216) : n ≤ sizeLine := by rw [sizeLine_eq]; exact h
theorem sq {K : PySem.W.Frag} {H : Hp} {a : Addr} {xs : List V} (h : H a = some (.lst xs)) : SqL K H a xs := .inl (.inl h)
def spLaw (K : PySem.W.Frag) : Sp := fun vs H Q _ => ∃ (a : Addr) (ns : List Int), vs = [.ref a] ∧ SqL K H a (ns.map V.int) ∧ ns.length ≤ 63 ∧ ∀ H', Q (.bl true) H'
/-! ### the reading, step by step -/
local macro_rules | `(tactic| walk_at "sd") => `(tactic| first
  | omega
  | decide
  | assumption
  | (show _ ∨ _; exact Or.inl ⟨by omega, by omega⟩)
  | (show _ ∨ _; exact Or.inr ⟨by omega, by omega⟩)
  | (show _ ∧ _; exact ⟨by omega, by omega⟩)
  | (show _ ∧ _; exact ⟨by decide, by decide⟩)
  | exact sz1000 (by omega)
  | exact sz1000' (by omega))
local macro_rules | `(tactic| walk_at "sz") => `(tactic| first
  | exact sz1000 (Nat.le_of_ble_eq_true rfl)
  | exact sz1000 (by omega)
  | exact sz1000'' (by omega)
  | assumption)
/-- one step of a reading: a slot, an operator upon numbers, a call upon values -/
local macro_rules | `(tactic| walk_at "rd") => `(tactic| first
  | refine ⟨_, (rfl : (_ : List (Option V))[_]? = some (some _)), ?_⟩
  | refine ⟨_, _, (rfl : (_ : V) = _), (rfl : (_ : V) = _), (by walk_at "sd" : (_ : Prop)), ?_⟩
  | refine ⟨_, _, (rfl : (_ : V) = _), (rfl : (_ : V) = _), ?_⟩
  | refine ⟨_, (rfl : (_ : List V) = _), (by walk_at "sd" : (_ : Prop)), (by walk_at "sd" : (_ : Prop)), ?_⟩
  | refine ⟨_, (rfl : (_ : List V) = _), ?_⟩
  | refine ⟨_, (rfl : (_ : V) = _), ?_⟩
  | refine .inl ⟨_, (rfl : (_ : List V) = _), ?_⟩
  | refine ⟨⟨_, (rfl : (_ : V) = _)⟩, ?_⟩
  | refine ⟨(rfl : scal _ _ = true), ?_⟩
  | refine ⟨(rfl : V.non = V.non), ?_⟩
  | refine ⟨(by walk_at "sz" : (_ ≤ sizeLine)), ?_⟩)
local macro_rules | `(tactic| walk_at "rds") => `(tactic| repeat walk_at "rd")
theorem tyes {σ : L2.St} {H : Hp} {A B : Hp → Prop} (h : A H) : tYes σ H (fun b H3 => if b = true then A H3 else B H3) := by
  show (if true = true then A H else B H)
  rw [if_pos rfl]
  exact h
theorem sum_ones {ys : List Str} (h : ∀ y ∈ ys, y.length = 1) : (ys.map (fun x => x.length)).sum = ys.length := by
  induction ys with
  | nil => rfl
  | cons y r ih =>
    rw [List.map_cons, List.sum_cons, ih (fun z hz => h z (List.mem_cons_of_mem _ hz)), h y List.mem_cons_self, List.length_cons]
    omega
theorem chr_at {z : Str} {i : Int} (h0 : 0 ≤ i) (h1 : i < z.length) : ∃ c, atI z.cps.toList i = some c := by
  obtain ⟨j, rfl⟩ := Int.eq_ofNat_of_zero_le h0
  have hj : j < z.cps.toList.length := by
    rw [Array.length_toList]
    exact Int.ofNat_lt.mp h1
  exact ⟨z.cps.toList[j], atI_nat (List.getElem?_eq_getElem hj)⟩
/-- what an append to a tracked new list leaves -/
theorem lst_app {α : Type} {H : Hp} {D : Addr} {f : α → V} {ys : List α} {y : α} : upd H D (.lst (ys.map f ++ [f y])) D = some (.lst ((ys ++ [y]).map f)) := by
  rw [upd_same, List.map_append]
  rfl
theorem rg40 {n : Nat} (h : n ≤ 100000) : RgC 0 n 40 ((n + 39) / 40) := by
  have e : Builtin.Range.rangeSize 0 (n : Int) 40 = (((n + 39) / 40 : Nat) : Int) := by
    rw [rangeSize_pos (by decide) (by omega)]
    omega
  refine ⟨by decide, by decide, ?_, e⟩
  unfold Builtin.Range.small
  rw [e]
  unfold Builtin.Range.rangeFitsLong
  simp
  omega
theorem isi {K : PySem.W.Frag} {H : Hp} {x : V} {T1 T2 : String} {b : Bool} {Q : VK} (ty : TyX K H x (.type T1)) (e : kitB T1 T2 = some b) (q : Q (.bl b) H) : rIsi K [x, .ty T2] H Q :=
  ⟨x, .ty T2, _, _, b, rfl, .ty _, ty, kit_ty e, q⟩
theorem ifT {c : Bool} {A B : Prop} (hc : c = true) (h : A) : if c = true then A else B := by
  rw [if_pos hc]
  exact h
theorem ifF {c : Bool} {A B : Prop} (hc : c = false) (h : B) : if c = true then A else B := by
  rw [if_neg (by rw [hc]; decide)]
  exact h
local macro_rules | `(tactic| walk_at "isk") => `(tactic| first
  | exact .base (.int _) | exact .base (.str _) | exact .base (.bl _) | exact .base .non
  | exact .base (.lst (by assumption)) | exact .base (.tup (by assumption)) | exact .base (.dK (by assumption)))
/-- isinstance(x, T) with a built-in T; the object's fact stands in the context -/
local macro_rules | `(tactic| walk_at "isi") => `(tactic| first
  | refine ⟨_, .ty _, _, _, true, (rfl : (_ : List V) = _), .ty _, (by walk_at "isk"), kit_ty (by decide +kernel), ?_⟩
  | refine ⟨_, .ty _, _, _, false, (rfl : (_ : List V) = _), .ty _, (by walk_at "isk"), kit_ty (by decide +kernel), ?_⟩)
/-! ### classes of the top -/
structure MethOk (K : PySem.W.Frag) (C : Addr) (m qual : Str) (st : Stmt) (ps : List Str) : Prop where
  ex : ∃ (f : Addr) (fd : FuncData), Meth K C m f ∧ L2.Fun K m qual st f fd ∧ Binds K fd ps []
structure MakOk (K : PySem.W.Frag) (C : Addr) (qual : Str) (st : Stmt) (ps : List Str) : Prop where
  ex : ∃ (f : Addr) (fd : FuncData), Mk K C f ∧ L2.Fun K "__init__" qual st f fd ∧ Binds K fd ps []
section
variable {P : Program} {w : World} {K : PySem.W.Frag} {mg : Str → Option Value} {base : Heap}
theorem met {C : Addr} {m qual : Str} {st : Stmt} {N ps : List Str} {k : Nat} {sp : Sp} (c : Cls K C) (D : MethOk K C m qual st ps) (S : FnScope N ps (defScope st)) (len : ∀ vs H Q E, sp vs H Q E → vs.length = ps.length)
    (hbody : ∀ (f : Addr) (cdv : Value) (A : Around) (outer : List Env) (s : Shared) (H : Hp) (vs : List V) (Q : VK) (E : XK), Room k (A.deeper (envOfC qual (defScope st) s.heap.objs.size f cdv)) → sp vs H Q E →
      ∃ t, PSs (cxOf L2.CX0 P w K mg base N qual (defScope st) f cdv A outer s H E).nox (defBody st) t ∧ t { nx := fun _ H' => Q .non H', rt := Q } (start N vs) H) : Met P w K mg base (k + 1) C m sp [] := by
  obtain ⟨f, fd, M, F, b⟩ := D.ex
  exact ⟨f, fd, ps, [], c, M, F.ok S len (fun cdv A outer s H vs Q E hr h => hbody f cdv A outer s H vs Q E hr h), b, .nil⟩
theorem mak {C : Addr} {x qual : Str} {st : Stmt} {N ps : List Str} {k : Nat} {sp : Sp} (hm : mg x = some (.ref C)) (D : MakOk K C qual st ps) (S : FnScope N ps (defScope st)) (len : ∀ vs H Q E, sp vs H Q E → vs.length = ps.length)
    (hbody : ∀ (f : Addr) (cdv : Value) (A : Around) (outer : List Env) (s : Shared) (H : Hp) (vs : List V) (Q : VK) (E : XK), Room k (A.deeper (envOfC qual (defScope st) s.heap.objs.size f cdv)) → sp vs H Q E →
      ∃ t, PSs (cxOf L2.CX0 P w K mg base N qual (defScope st) f cdv A outer s H E).nox (defBody st) t ∧ t { nx := fun _ H' => Q .non H', rt := Q } (start N vs) H) : Mak P w K mg base (k + 1) x C sp [] := by
  obtain ⟨f, fd, M, F, b⟩ := D.ex
  exact ⟨f, fd, ps, [], M, F.ok S len (fun cdv A outer s H vs Q E hr h => hbody f cdv A outer s H vs Q E hr h), hm, b, .nil⟩
end
/-- a tuple of the top, in the written part -/
def KTup (K : PySem.W.Frag) (a : Addr) (xs : List V) : Prop := ∃ o its n, K.lookup a = some o ∧ o.cls = Value.type "tuple" ∧ o.data = Data.seq its n ∧ its.size ≤ sizeLine ∧ Vals xs its.toList
theorem pe_mk0 {X : Cx} {k j : Nat} {x : Str} {C : Addr} {sp : Sp} {dvs : List V} {p pos : Pos} (c : Mak X.prog X.w X.K X.mg X.base k x C sp dvs) (hr : Room j X.A) (hk : k + 1 ≤ j) (hg : Gl X x)
    (hdb : (x == ("__debug__" : Str)) = false := by decide) : PE X (.Call (.Name x p) [] [] pos) (tMake C sp dvs L2.E0 tNil) := by
  obtain ⟨f, fd, ps, ds, M, F, hm, b, d⟩ := c.ex
  exact pe_make0 M F (hr.mono hk) hg hm b d pass0 hdb
/-! ### rules whose written part is named K (a comprehension's context is another one) -/
section
variable {X : Cx} {K : PySem.W.Frag}
theorem kin (h : X.K = K := by rfl) : OpR X (compareOp .In) (rIn K false) := by subst h; exact op_in_seq
theorem knin (h : X.K = K := by rfl) : OpR X (compareOp .NotIn) (rIn K true) := by subst h; exact op_notIn_seq
theorem kixl (h : X.K = K := by rfl) : IxR X (rIxL K) := by subst h; exact ix_list
theorem kixt (h : X.K = K := by rfl) : IxR X (rIxT K) := by subst h; exact ix_tup
theorem ksll (h : X.K = K := by rfl) : SlR X (rSlL K) := by subst h; exact sl_list
theorem kisi (h : X.K = K := by rfl) : CallR X (.builtin "isinstance") (rIsi K) := by subst h; exact call_isi
theorem kfld {o : Expr} {f : Str} {pos : Pos} {ta : TE} (he : PE X o ta) (hb : attributeBase o f X.env (eval o X.env) = eval o X.env := by rfl) (h : X.K = K := by rfl) : PE X (.Attribute o f pos) (tFld K ta f) := by subst h; exact pe_fld he hb
def rLenK (K : PySem.W.Frag) : List V → Hp → VK → Prop := fun xs H Q => ∃ p ys, xs = [.ref p] ∧ (SqL K H p ys ∨ SqT K H p ys) ∧ Q (.int ys.length) H
theorem klen (h : X.K = K := by rfl) : CallR X (.builtin "len") (rLenK K) := by subst h; exact call_len_seq
end
theorem hu1 {k : Nat} {A : Around} (hr : Room k A) : A.units + 1 < cLine := by have := hr.units; omega

def topS (i : Nat) : Stmt := PySem.Challenge.pw_oathledger_k02_quorums_meet.main.body.getD i (.Pass ⟨0, 0, 0, 0⟩)
abbrev s_is_integer : Stmt := topS 6
theorem sc_is_integer : FnScope ["value", "least", "greatest"] ["value", "least", "greatest"] (defScope s_is_integer) := ⟨rfl, rfl, rfl, by decide +kernel, rfl, by decide +kernel, by decide +kernel⟩
abbrev s_Group____init__ : Stmt := inClass (topS 8) 0
theorem sc_Group____init__ : FnScope ["self", "faults"] ["self", "faults"] (defScope s_Group____init__) := ⟨rfl, rfl, rfl, by decide +kernel, rfl, by decide +kernel, by decide +kernel⟩
abbrev s_Group__members : Stmt := inClass (topS 8) 1
theorem sc_Group__members : FnScope ["self"] ["self"] (defScope s_Group__members) := ⟨rfl, rfl, rfl, by decide +kernel, rfl, by decide +kernel, by decide +kernel⟩
abbrev s_Group__is_member : Stmt := inClass (topS 8) 2
theorem sc_Group__is_member : FnScope ["self", "value"] ["self", "value"] (defScope s_Group__is_member) := ⟨rfl, rfl, rfl, by decide +kernel, rfl, by decide +kernel, by decide +kernel⟩
abbrev s__law_draws : Stmt := topS 10
theorem sc__law_draws : FnScope ["script", "draws", "k", "cell", "step", "mixed"] ["script"] (defScope s__law_draws) := ⟨rfl, rfl, rfl, by decide +kernel, rfl, by decide +kernel, by decide +kernel⟩
abbrev s__law_next : Stmt := topS 11
theorem sc__law_next : FnScope ["draws", "at", "many", "index"] ["draws", "at", "many"] (defScope s__law_next) := ⟨rfl, rfl, rfl, by decide +kernel, rfl, by decide +kernel, by decide +kernel⟩
abbrev s__law_big : Stmt := topS 12
theorem sc__law_big : FnScope ["draws", "at", "many", "number", "k"] ["draws", "at", "many"] (defScope s__law_big) := ⟨rfl, rfl, rfl, by decide +kernel, rfl, by decide +kernel, by decide +kernel⟩
abbrev s__law_chosen : Stmt := topS 13
theorem sc__law_chosen : FnScope ["members", "many", "draws", "at", "rest", "chosen", "k", "index"] ["members", "many", "draws", "at"] (defScope s__law_chosen) := ⟨rfl, rfl, rfl, by decide +kernel, rfl, by decide +kernel, by decide +kernel⟩
abbrev s__law_common : Stmt := topS 14
theorem sc__law_common : FnScope ["first", "second", "member"] ["first", "second"] (defScope s__law_common) := ⟨rfl, rfl, rfl, by decide +kernel, rfl, by decide +kernel, by decide +kernel⟩
abbrev s__law_outside : Stmt := topS 15
theorem sc__law_outside : FnScope ["members", "away", "member"] ["members", "away"] (defScope s__law_outside) := ⟨rfl, rfl, rfl, by decide +kernel, rfl, by decide +kernel, by decide +kernel⟩
abbrev s_law : Stmt := topS 16
theorem sc_law : FnScope ["script", "draws", "at", "turn", "group", "members", "first", "second", "faulty", "few", "common"] ["script"] (defScope s_law) := ⟨rfl, rfl, rfl, by decide +kernel, rfl, by decide +kernel, by decide +kernel⟩
structure Txt (K : PySem.W.Frag) (mg : Str → Option Value) (C_Group : Addr) : Prop where
  d_is_integer : DefOk K mg "is_integer" s_is_integer ["value", "least", "greatest"]
  d__law_draws : DefOk K mg "_law_draws" s__law_draws ["script"]
  d__law_next : DefOk K mg "_law_next" s__law_next ["draws", "at", "many"]
  d__law_big : DefOk K mg "_law_big" s__law_big ["draws", "at", "many"]
  d__law_chosen : DefOk K mg "_law_chosen" s__law_chosen ["members", "many", "draws", "at"]
  d__law_common : DefOk K mg "_law_common" s__law_common ["first", "second"]
  d__law_outside : DefOk K mg "_law_outside" s__law_outside ["members", "away"]
  d_law : DefOk K mg "law" s_law ["script"]
  cl_Group : Cls K C_Group
  g_Group : mg "Group" = some (.ref C_Group)
  na_Group_faults : NoAttr K C_Group "faults"
  na_Group_machines : NoAttr K C_Group "machines"
  na_Group_quorum : NoAttr K C_Group "quorum"
  na_Group_blocking : NoAttr K C_Group "blocking"
  mk_Group : MakOk K C_Group "Group.__init__" s_Group____init__ ["self", "faults"]
  me_Group__members : MethOk K C_Group "members" "Group.members" s_Group__members ["self"]
  me_Group__is_member : MethOk K C_Group "is_member" "Group.is_member" s_Group__is_member ["self", "value"]
  c_MOST_FAULTS : ∃ u, mg "MOST_FAULTS" = some u ∧ RelV (.int 10) u
  z_abs : mg "abs" = none
  z_bool : mg "bool" = none
  z_int : mg "int" = none
  z_isinstance : mg "isinstance" = none
  z_len : mg "len" = none
  z_list : mg "list" = none
  z_range : mg "range" = none
set_option pp.maxSteps 150
/-! ### the draws of a script -/
def Dr (H : Hp) (D A : Addr) : Prop := D ≠ A ∧ ∃ (ds : List Int) (n : Nat), H D = some (.lst (ds.map V.int)) ∧ H A = some (.lst [.int n]) ∧ (∀ d ∈ ds, 0 ≤ d ∧ d < 1000) ∧ ds.length ≤ 2520
/-- all that was tracked but A is as it was -/
def Mod (A : Addr) (H H' : Hp) : Prop := ∀ b o, b ≠ A → H b = some o → H' b = some o
theorem Mod.refl {A : Addr} {H : Hp} : Mod A H H := fun _ _ _ h => h
theorem Mod.trans {A : Addr} {H H1 H2 : Hp} (a : Mod A H H1) (b : Mod A H1 H2) : Mod A H H2 := fun c o n h => b c o n (a c o n h)
theorem Same.mod {A : Addr} {H H' : Hp} (s : Same H H') : Mod A H H' := fun b o _ h => s b o h
theorem Mod.new {A p : Addr} {o : HO} {H H' : Hp} (s : Mod A H H') (h : H' p = none) : Mod A H (upd H' p o) := fun b u n e => by
  rw [upd_ne (ne_of_none (s b u n e) h)]
  exact s b u n e
theorem Dr.new {D A p : Addr} {o : HO} {H : Hp} (d : Dr H D A) (h : H p = none) : Dr (upd H p o) D A := by
  obtain ⟨ne, ds, n, h1, h2, h3⟩ := d
  exact ⟨ne, ds, n, by rw [upd_ne (ne_of_none h1 h)]; exact h1, by rw [upd_ne (ne_of_none h2 h)]; exact h2, h3⟩
theorem Dr.same {D A : Addr} {H H' : Hp} (d : Dr H D A) (s : Same H H') : Dr H' D A := by
  obtain ⟨ne, ds, n, h1, h2, h3⟩ := d
  exact ⟨ne, ds, n, s _ _ h1, s _ _ h2, h3⟩
/-- an object that is neither D nor A is changed -/
theorem Dr.put {D A p : Addr} {o : HO} {H : Hp} (d : Dr H D A) (h1 : p ≠ D) (h2 : p ≠ A) : Dr (upd H p o) D A := by
  obtain ⟨ne, ds, n, e1, e2, h3⟩ := d
  exact ⟨ne, ds, n, by rw [upd_ne h1.symm]; exact e1, by rw [upd_ne h2.symm]; exact e2, h3⟩
theorem Dr.freshA {D A p : Addr} {H : Hp} (d : Dr H D A) (h : H p = none) : p ≠ A := by
  obtain ⟨_, _, _, _, e, _⟩ := d
  exact (ne_of_none e h).symm
theorem Dr.freshD {D A p : Addr} {H : Hp} (d : Dr H D A) (h : H p = none) : p ≠ D := by
  obtain ⟨_, _, _, e, _⟩ := d
  exact (ne_of_none e h).symm
theorem Mod.free {A p : Addr} {H H' : Hp} (s : Mod A H H') (d : ∃ o, H' A = some o) (h : H' p = none) : H p = none := by
  cases e : H p with
  | none => rfl
  | some o =>
    by_cases hp : p = A
    · subst hp
      obtain ⟨o', e'⟩ := d
      rw [e'] at h; cases h
    · rw [s p o hp e] at h; cases h
theorem Dr.A_in {D A : Addr} {H : Hp} (d : Dr H D A) : ∃ o, H A = some o := by
  obtain ⟨_, _, _, _, e, _⟩ := d
  exact ⟨_, e⟩
theorem rng_app {ds : List Int} {x : Int} (h : ∀ d ∈ ds, 0 ≤ d ∧ d < 1000) (h0 : 0 ≤ x) (h1 : x < 1000) : ∀ d ∈ ds ++ [x], 0 ≤ d ∧ d < 1000 := fun d hd => by
  rcases List.mem_append.mp hd with hd | hd
  · exact h d hd
  · rw [List.mem_singleton.mp hd]; exact ⟨h0, h1⟩

def spDraws (K : PySem.W.Frag) : Sp := fun vs H Q _ => ∃ (a : Addr) (ns : List Int), vs = [.ref a] ∧ SqL K H a (ns.map V.int) ∧ ns.length ≤ 63 ∧
  ∀ (H' : Hp) (D : Addr) (ds : List Int), Same H H' → H D = none → H' D = some (.lst (ds.map V.int)) → (∀ d ∈ ds, 0 ≤ d ∧ d < 1000) → ds.length ≤ 2520 → Q (.ref D) H'
def spNext : Sp := fun vs H Q _ => ∃ (D A : Addr) (m : Int), vs = [.ref D, .ref A, .int m] ∧ Dr H D A ∧ 1 ≤ m ∧
  ∀ (H' : Hp) (r : Int), 0 ≤ r → r < m → Mod A H H' → Dr H' D A → Q (.int r) H'
section
variable {P : Program} {w : World} {K : PySem.W.Frag} {mg : Str → Option Value} {base : Heap}
theorem c__law_next {C_Group : Addr} (T : Txt K mg C_Group) : Cal P w K mg base 1 "_law_next" spNext [] := by
  refine cal T.d__law_next sc__law_next (fun vs H Q E h => ?_) (fun f cdv A outer s H vs Q E hr h => ?_)
  · obtain ⟨D, A, m, rfl, _⟩ := h; rfl
  obtain ⟨D, A, m, rfl, dr, hm, q⟩ := h
  obtain ⟨ne, ds, n, hD, hA, hrg, hle⟩ := id dr
  refine ⟨_, (pss_cons (ps_set (i := 3) sc__law_next.nd rfl (Or.inl rfl) (pe_ix (kixl (K := K)) (pv 1) pe_int (fun _ _ => rfl)))
      (pss_cons (ps_asg (pe_op op_add (pv 3) pe_int) (pg_sub (pv 1) pe_int set_list))
      (pss_cons (ps_if (pt_cmpR op_lt (pv 3) (pe_callB (klen (K := K)) (by rfl) T.z_len (by decide +kernel) (pa_cons (pv 0) pa_nil)) (nomark _)) (pss_one (ps_ret (pe_op op_mod (pe_callTy call_int1 (by rfl) T.z_int (by decide +kernel) (pa_cons (pe_ix (kixl (K := K)) (pv 0) (pv 3) (fun _ _ => rfl)) pa_nil)) (pv 2)))) pss_nil)
      (pss_one (ps_ret pe_int))))), ?_⟩
  walk_at "rds"
  refine ⟨A, _, (0 : Int), _, rfl, rfl, sq hA, atI_nat (j := 0) rfl, ?_⟩
  walk_at "rds"
  refine ⟨A, _, (0 : Int), 0, rfl, rfl, hA, rfl, ?_⟩
  have hD' : (upd H A (.lst [.int ((n : Int) + 1)])) D = some (.lst (ds.map V.int)) := by rw [upd_ne ne]; exact hD
  have md : Mod A H (upd H A (.lst [.int ((n : Int) + 1)])) := fun b o hb e => by rw [upd_ne hb]; exact e
  have dr' : Dr (upd H A (.lst [.int ((n : Int) + 1)])) D A := ⟨ne, ds, n + 1, hD', upd_same, hrg, hle⟩
  walk_at "rds"
  refine ⟨D, _, rfl, .inl (sq hD'), ?_⟩
  walk_at "rds"
  refine ite2 (fun e => ?_) (fun e => ?_)
  · have e := of_decide_eq_true e
    rw [List.length_map] at e
    have e1 : n < ds.length := by omega
    have g : (ds.map V.int)[n]? = some (.int ds[n]) := by
      rw [List.getElem?_map, List.getElem?_eq_getElem e1]; rfl
    walk_at "rds"
    refine ⟨D, _, (n : Int), _, rfl, rfl, sq hD', atI_nat g, ?_⟩
    walk_at "rds"
    exact q _ _ (Int.emod_nonneg _ (by omega)) (Int.emod_lt_of_pos _ (by omega)) md dr'
  · exact q _ _ (by omega) (by omega) md dr'
theorem c__law_draws {C_Group : Addr} (T : Txt K mg C_Group) : Cal P w K mg base 1 "_law_draws" (spDraws K) [] := by
  refine cal T.d__law_draws sc__law_draws (fun vs H Q E h => ?_) (fun f cdv A outer s H vs Q E hr h => ?_)
  · obtain ⟨a, ns, rfl, _⟩ := h; rfl
  obtain ⟨a, ns, rfl, hS, hlen, q⟩ := h
  refine ⟨_, (pss_cons (ps_set (i := 1) sc__law_draws.nd rfl (Or.inl rfl) (pe_lst pa_nil))
      (pss_cons (ps_for PassesOwn.never rfl (pi_range1 (by rfl) T.z_range (pa_cons (pe_callB (klen (K := K)) (by rfl) T.z_len (by decide +kernel) (pa_cons (pv 0) pa_nil)) pa_nil)) (pg_name (i := 2) sc__law_draws.nd rfl (Or.inl rfl)) (pss_cons (ps_set (i := 3) sc__law_draws.nd rfl (Or.inl rfl) (pe_callB call_abs (by rfl) T.z_abs (by decide +kernel) (pa_cons (pe_ix (kixl (K := K)) (pv 0) (pv 2) (fun _ _ => rfl)) pa_nil)))
      (pss_one (ps_if (pt_cmpR op_ge (pv 3) (pe_op op_pow pe_int pe_int) (nomark _)) (pss_one (ps_for PassesOwn.never rfl (pi_range1 (by rfl) T.z_range (pa_cons pe_int pa_nil)) (pg_name (i := 4) sc__law_draws.nd rfl (Or.inl rfl)) (pss_cons (ps_expr (pe_bm PySem.F.plainAttrs_list PySem.F.slot_list_append PySem.F.type_list_append mt_append (pv 1) (pa_cons (pe_op op_mod (pe_callTy call_int1 (by rfl) T.z_int (by decide +kernel) (pa_cons (pv 3) pa_nil)) pe_int) pa_nil)))
      (pss_one (ps_set (i := 3) sc__law_draws.nd rfl (Or.inl rfl) (pe_op op_fdiv (pv 3) pe_int)))))) (pss_cons (ps_set (i := 5) sc__law_draws.nd rfl (Or.inl rfl) (pe_op op_add (pv 3) pe_int))
      (pss_one (ps_for PassesOwn.never rfl (pi_range1 (by rfl) T.z_range (pa_cons pe_int pa_nil)) (pg_name (i := 4) sc__law_draws.nd rfl (Or.inl rfl)) (pss_cons (ps_set (i := 5) sc__law_draws.nd rfl (Or.inl rfl) (pe_op op_mod (pe_callTy call_int1 (by rfl) T.z_int (by decide +kernel) (pa_cons (pe_op op_add (pe_op op_add (pe_op op_mul (pv 5) pe_int) (pe_op op_mul pe_int (pe_op op_add (pv 2) (pv 4)))) pe_int) pa_nil)) pe_int))
      (pss_cons (ps_set (i := 5) sc__law_draws.nd rfl (Or.inl rfl) (pe_op op_mod (pe_callTy call_int1 (by rfl) T.z_int (by decide +kernel) (pa_cons (pe_op op_add (pe_op op_mul (pv 5) pe_int) pe_int) pa_nil)) pe_int))
      (pss_one (ps_expr (pe_bm PySem.F.plainAttrs_list PySem.F.slot_list_append PySem.F.type_list_append mt_append (pv 1) (pa_cons (pe_op op_mod (pe_callTy call_int1 (by rfl) T.z_int (by decide +kernel) (pa_cons (pe_op op_fdiv (pv 5) pe_int) pa_nil)) pe_int) pa_nil)))))))))))))
      (pss_one (ps_ret (pv 1))))), ?_⟩
  refine ⟨by decide, fun D hD => ?_⟩
  walk_at "rds"
  refine ⟨a, _, rfl, .inl ((same_upd hD).seq hS), ?_⟩
  refine ⟨_, rfl, by rw [List.length_map]; omega, by rw [List.length_map]; omega, ?_⟩
  refine for_it walk_range (Pv := fun i σ H' => ∃ y2 y3 y4 y5 ds, σ = [some (.ref a), some (.ref D), y2, y3, y4, y5] ∧ Same H H' ∧ H' D = some (.lst (ds.map V.int)) ∧ (∀ d ∈ ds, 0 ≤ d ∧ d < 1000) ∧ ds.length ≤ 40 * i) ⟨none, none, none, none, [], rfl, same_upd hD, upd_same, by simp, by simp⟩ (fun _ _ _ _ _ => trivial) (fun i x σ H1 H2 hi hp hy => ?_) (fun σ H1 hp => ?_)
  · obtain ⟨y2, y3, y4, y5, ds, rfl, sm, hd, hrg, hl⟩ := hp
    obtain ⟨rfl, rfl⟩ := hy
    have hi' : i < ns.length := by rw [List.length_map] at hi; omega
    have g : (ns.map V.int)[i]? = some (.int ns[i]) := by
      rw [List.getElem?_map, List.getElem?_eq_getElem hi']; rfl
    have e0 : (0 : Int) + (i : Int) = (i : Int) := by omega
    walk_at "rds"
    refine ⟨a, _, (i : Int), _, rfl, by show V.int (0 + (i : Int)) = V.int i; rw [e0], sm.seq hS, atI_nat g, ?_⟩
    walk_at "rds"
    have hc0 : (0 : Int) ≤ (if ns[i] < 0 then -ns[i] else ns[i]) := by split <;> omega
    generalize (if ns[i] < 0 then -ns[i] else ns[i]) = c at hc0
    refine ite2 (fun e => ?_) (fun e => ?_)
    · refine ⟨40, rfl, by decide, by decide, ?_⟩
      refine for_it walk_range (Pv := fun j σ H' => ∃ y4 ds c, σ = [some (.ref a), some (.ref D), some (.int (0 + (i : Int))), some (.int c), y4, y5] ∧ Same H H' ∧ H' D = some (.lst (ds.map V.int)) ∧ (∀ d ∈ ds, 0 ≤ d ∧ d < 1000) ∧ ds.length ≤ 40 * i + j ∧ 0 ≤ c) ⟨y4, ds, c, rfl, sm, hd, hrg, by omega, hc0⟩ (fun _ _ _ _ _ => trivial) (fun j x σ H3 H4 hj hp hy => ?_) (fun σ H3 hp => ?_)
      · obtain ⟨z4, ds, c, rfl, sm, hd, hrg, hl, hc0⟩ := hp
        obtain ⟨rfl, rfl⟩ := hy
        refine ⟨.ref D, rfl, .inl ⟨rfl, _, sq hd⟩, ?_⟩
        walk_at "rds"
        have hj' : j < 40 := hj
        refine ⟨_, _, _, rfl, rfl, hd, by rw [List.length_map]; exact sz1000' (by omega), ?_⟩
        refine ⟨_, rfl, _, _, rfl, rfl, ⟨by decide, by decide⟩, ?_⟩
        refine ⟨_, ds ++ [c % 1000], c / 1000, rfl, same_mut sm hD, lst_app, rng_app hrg (by omega) (by omega), ?_, by omega⟩
        rw [List.length_append, List.length_singleton]; omega
      · obtain ⟨z4, ds, c, rfl, sm, hd, hrg, hl, hc0⟩ := hp
        exact ⟨_, _, _, _, ds, rfl, sm, hd, hrg, by have : (40 : Int).toNat = 40 := rfl; omega⟩
    · have hc1 : c < 10 ^ 18 := by
        have : ¬ ((10 : Int) ^ (18 : Int).toNat ≤ c) := fun z => e (decide_eq_true z)
        have e18 : (10 : Int) ^ (18 : Int).toNat = 10 ^ 18 := rfl
        omega
      walk_at "rds"
      refine for_it walk_range (Pv := fun j σ H' => ∃ y4 ds m, σ = [some (.ref a), some (.ref D), some (.int (0 + (i : Int))), some (.int c), y4, some (.int m)] ∧ Same H H' ∧ H' D = some (.lst (ds.map V.int)) ∧ (∀ d ∈ ds, 0 ≤ d ∧ d < 1000) ∧ ds.length ≤ 40 * i + j ∧ 0 ≤ m ∧ m ≤ 10 ^ 18) ⟨y4, ds, _, rfl, sm, hd, hrg, by omega, by omega, by omega⟩ (fun _ _ _ _ _ => trivial) (fun j x σ H3 H4 hj hp hy => ?_) (fun σ H3 hp => ?_)
      · obtain ⟨z4, ds, m, rfl, sm, hd, hrg, hl, hm0, hm1⟩ := hp
        obtain ⟨rfl, rfl⟩ := hy
        have hj' : j < 8 := hj
        walk_at "rds"
        refine ⟨.inl ⟨rfl, _, sq hd⟩, ?_⟩
        walk_at "rds"
        refine ⟨_, _, _, rfl, rfl, hd, by rw [List.length_map]; exact sz1000' (by omega), ?_⟩
        refine ⟨_, ds ++ [_], _, rfl, same_mut sm hD, lst_app, rng_app hrg (by omega) (by omega), ?_, by omega, by omega⟩
        rw [List.length_append, List.length_singleton]; omega
      · obtain ⟨z4, ds, m, rfl, sm, hd, hrg, hl, hm0, hm1⟩ := hp
        exact ⟨_, _, _, _, ds, rfl, sm, hd, hrg, by have : (8 : Int).toNat = 8 := rfl; omega⟩
  · obtain ⟨y2, y3, y4, y5, ds, rfl, sm, hd, hrg, hl⟩ := hp
    refine ⟨.ref D, rfl, ?_⟩
    refine q _ _ _ sm hD hd hrg ?_
    rw [List.length_map] at hl; omega
end

/-! ### lists of different numbers -/
theorem sub_len : ∀ {A U : List Int}, A.Nodup → (∀ x ∈ A, x ∈ U) → A.length ≤ U.length
  | [], _, _, _ => Nat.zero_le _
  | a :: r, U, h, hs => by
    have hn := List.nodup_cons.mp h
    have ha : a ∈ U := hs a List.mem_cons_self
    have ih := sub_len (A := r) (U := U.erase a) hn.2 (fun x hx => (List.mem_erase_of_ne (fun (e : x = a) => hn.1 (by rw [← e]; exact hx))).mpr (hs x (List.mem_cons_of_mem _ hx)))
    rw [List.length_erase_of_mem ha] at ih
    have : 0 < U.length := List.length_pos_of_mem ha
    rw [List.length_cons]
    omega
theorem split_len (A B : List Int) : (A.filter (fun x => decide (x ∈ B))).length + (A.filter (fun x => decide (x ∉ B))).length = A.length := by
  induction A with
  | nil => rfl
  | cons a r ih =>
    by_cases h : a ∈ B
    · rw [List.filter_cons_of_pos (by simpa using h), List.filter_cons_of_neg (by simpa using h), List.length_cons, List.length_cons]
      omega
    · rw [List.filter_cons_of_neg (by simpa using h), List.filter_cons_of_pos (by simpa using h), List.length_cons, List.length_cons]
      omega
theorem out_len {A B : List Int} (h : A.Nodup) : A.length ≤ (A.filter (fun x => decide (x ∉ B))).length + B.length := by
  have e := split_len A B
  have l : (A.filter (fun x => decide (x ∈ B))).length ≤ B.length := sub_len (h.filter _) (fun x hx => by simpa using (List.mem_filter.mp hx).2)
  omega
theorem in_len {A B U : List Int} (h : A.Nodup) (hB : B.Nodup) (hA : ∀ x ∈ A, x ∈ U) (hBU : ∀ x ∈ B, x ∈ U) : A.length + B.length ≤ (A.filter (fun x => decide (x ∈ B))).length + U.length := by
  have e := split_len A B
  have l : ((A.filter (fun x => decide (x ∉ B))) ++ B).length ≤ U.length := by
    refine sub_len ?_ ?_
    · rw [List.nodup_append]
      refine ⟨h.filter _, hB, fun x hx y hy e => ?_⟩
      subst e
      exact (by simpa using (List.mem_filter.mp hx).2 : x ∉ B) hy
    · intro x hx
      rcases List.mem_append.mp hx with hx | hx
      · exact hA x (List.mem_filter.mp hx).1
      · exact hBU x hx
  rw [List.length_append] at l
  omega
theorem inV_int (a : Int) (ys : List Int) : inV (.int a) (ys.map V.int) = decide (a ∈ ys) := by
  unfold inV
  rw [List.any_map]
  induction ys with
  | nil => rfl
  | cons y r ih =>
    rw [List.any_cons, ih]
    by_cases h : y = a
    · subst h
      simp [eqV]
    · have h' : ¬ a = y := fun e => h e.symm
      simp [eqV, h, h']
theorem flat_ints (ys : List Int) : (ys.map V.int).all flatV = true := by
  rw [List.all_map, List.all_eq_true]
  intro x _
  rfl
theorem cutV_to (xs : List V) (i : Nat) : cutV xs none (some (i : Int)) = xs.take i := by
  unfold cutV
  rw [HT.sIx_nat, HT.sIx_none, Nat.sub_zero, List.drop_zero]
  by_cases h : i ≤ xs.length
  · rw [Nat.min_eq_left h]
  · rw [Nat.min_eq_right (by omega), List.take_length, List.take_of_length_le (by omega)]
theorem cutV_from (xs : List V) (i : Nat) : cutV xs (some (i : Int)) none = xs.drop i := by
  unfold cutV
  rw [HT.sIx_nat, HT.sIx_none]
  by_cases h : i ≤ xs.length
  · rw [Nat.min_eq_left h, ← List.length_drop, List.take_length]
  · rw [Nat.min_eq_right (by omega), List.drop_length, Nat.sub_self, List.drop_of_length_le (by omega)]; rfl
theorem mid {l : List Int} {j : Nat} (hj : j < l.length) (h : l.Nodup) : (l.take j ++ l.drop (j + 1)).Nodup ∧ l[j] ∉ (l.take j ++ l.drop (j + 1)) ∧ (∀ x ∈ l.take j ++ l.drop (j + 1), x ∈ l) ∧ (l.take j ++ l.drop (j + 1)).length + 1 = l.length := by
  have e : l.take j ++ l[j] :: l.drop (j + 1) = l := by rw [← List.drop_eq_getElem_cons hj, List.take_append_drop]
  have h' : (l.take j ++ l[j] :: l.drop (j + 1)).Nodup := by rw [e]; exact h
  have h2 := List.nodup_append.mp h'
  have h3 := List.nodup_cons.mp h2.2.1
  refine ⟨?_, ?_, ?_, ?_⟩
  · exact List.nodup_append.mpr ⟨h2.1, h3.2, fun a ha b hb => h2.2.2 a ha b (List.mem_cons_of_mem _ hb)⟩
  · intro hm
    rcases List.mem_append.mp hm with hm | hm
    · exact h2.2.2 _ hm _ List.mem_cons_self rfl
    · exact h3.1 hm
  · intro x hx
    rcases List.mem_append.mp hx with hx | hx
    · exact List.mem_of_mem_take hx
    · exact List.mem_of_mem_drop hx
  · rw [List.length_append, List.length_take, List.length_drop]; omega
/-! ### the group -/
def gF (n : Int) : List (Str × V) := putF "blocking" (.int (n + 1)) (putF "quorum" (.int (2 * n + 1)) (putF "machines" (.int (3 * n + 1)) (putF "faults" (.int n) [])))
theorem gF_f (n : Int) : (gF n).lookup ("faults" : Str) = some (V.int n) := by rfl
theorem gF_m (n : Int) : (gF n).lookup ("machines" : Str) = some (V.int (3 * n + 1)) := by rfl
theorem gF_q (n : Int) : (gF n).lookup ("quorum" : Str) = some (V.int (2 * n + 1)) := by rfl
theorem gF_b (n : Int) : (gF n).lookup ("blocking" : Str) = some (V.int (n + 1)) := by rfl
theorem gF_no (n : Int) : (gF n).lookup ("members" : Str) = none ∧ (gF n).lookup ("is_member" : Str) = none := by exact ⟨rfl, rfl⟩
/-- a Group stands at p -/
def GrAt (C : Addr) (H : Hp) (p : Addr) (n : Int) : Prop := ∃ dx, H p = some (.ins C dx (gF n))
def spInt : Sp := fun vs H Q _ => ∃ (i lo hi : Int), vs = [.int i, .int lo, .int hi] ∧ Q (.bl (decide (lo ≤ i ∧ i ≤ hi))) H
def spInit (C : Addr) : Sp := fun vs H Q _ => ∃ (p dx : Addr) (n : Int), vs = [.ref p, .int n] ∧ H p = some (.ins C dx []) ∧ 0 ≤ n ∧ n ≤ 10 ∧ ∀ (H' : Hp), (∀ b o, H b = some o → b ≠ p → H' b = some o) → GrAt C H' p n → Q .non H'
def spMembers (C : Addr) : Sp := fun vs H Q _ => ∃ (p : Addr) (n : Int), vs = [.ref p] ∧ GrAt C H p n ∧ 0 ≤ n ∧ n ≤ 10 ∧ ∀ q, H q = none → Q (.ref q) (upd H q (.lst (rgV 0 (3 * n + 1))))
def spIsMember (C : Addr) : Sp := fun vs H Q _ => ∃ (p : Addr) (n i : Int), vs = [.ref p, .int i] ∧ GrAt C H p n ∧ Q (.bl (decide (0 ≤ i ∧ i ≤ 3 * n + 1 - 1))) H
def spChosen (K : PySem.W.Frag) : Sp := fun vs H Q _ => ∃ (M D A : Addr) (xs : List Int) (m : Nat), vs = [.ref M, .int m, .ref D, .ref A] ∧ Dr H D A ∧ H M = some (.lst (xs.map V.int)) ∧ M ≠ A ∧ xs.Nodup ∧ m ≤ xs.length ∧ xs.length ≤ 100 ∧
  ∀ (H' : Hp) (p : Addr) (ys : List Int), Mod A H H' → Dr H' D A → p ≠ A → H' p = some (.lst (ys.map V.int)) → ys.Nodup → (∀ y ∈ ys, y ∈ xs) → ys.length = m → Q (.ref p) H'
def spCommon (K : PySem.W.Frag) (neg : Bool) : Sp := fun vs H Q _ => ∃ (a b : Addr) (xs ys : List Int), vs = [.ref a, .ref b] ∧ H a = some (.lst (xs.map V.int)) ∧ H b = some (.lst (ys.map V.int)) ∧ xs.length ≤ 1000 ∧
  ∀ (H' : Hp) (p : Addr), Same H H' → H p = none → H' p = some (.lst ((xs.filter (fun x => if neg then decide (x ∉ ys) else decide (x ∈ ys))).map V.int)) → Q (.ref p) H'
section
variable {P : Program} {w : World} {K : PySem.W.Frag} {mg : Str → Option Value} {base : Heap}
theorem c_is_integer {C_Group : Addr} (T : Txt K mg C_Group) : Cal P w K mg base 1 "is_integer" spInt [] := by
  refine cal T.d_is_integer sc_is_integer (fun vs H Q E h => ?_) (fun f cdv A outer s H vs Q E hr h => ?_)
  · obtain ⟨i, lo, hi, rfl, _⟩ := h; rfl
  obtain ⟨i, lo, hi, rfl, q⟩ := h
  refine ⟨_, (pss_one (ps_ret (pe_and (pe_callB (kisi (K := K)) (by rfl) T.z_isinstance (by decide +kernel) (pa_cons (pv 0) (pa_cons (pe_bltn (v := .ty "int") (by rfl) T.z_int (by decide +kernel) rfl) pa_nil))) (pe_and (pe_not (pe_callB (kisi (K := K)) (by rfl) T.z_isinstance (by decide +kernel) (pa_cons (pv 0) (pa_cons (pe_bltn (v := .ty "bool") (by rfl) T.z_bool (by decide +kernel) rfl) pa_nil)))) (pe_one (pe_chain op_le op_le (pv 1) (pv 0) (pv 2))))))), ?_⟩
  walk_at "rds"
  walk_at "isi"
  walk_at "rds"
  walk_at "isi"
  walk_at "rds"
  refine ite2 (fun e => ?_) (fun e => ?_)
  · have e := of_decide_eq_true e
    walk_at "rds"
    have e2 : decide (lo ≤ i ∧ i ≤ hi) = decide (i ≤ hi) := by simp [e]
    rw [e2] at q
    exact q
  · have e : ¬ lo ≤ i := fun z => e (decide_eq_true z)
    have e2 : decide (lo ≤ i ∧ i ≤ hi) = false := by simp [e]
    rw [e2] at q
    exact q
theorem k_Group {C_Group : Addr} (T : Txt K mg C_Group) : Mak P w K mg base 2 "Group" C_Group (spInit C_Group) [] := by
  have c_is_integer := c_is_integer (P := P) (w := w) (base := base) T
  refine mak T.g_Group T.mk_Group sc_Group____init__ (fun vs H Q E h => ?_) (fun f cdv A outer s H vs Q E hr h => ?_)
  · obtain ⟨p, dx, n, rfl, _⟩ := h; rfl
  obtain ⟨p, dx, n, rfl, hp, h0, h1, q⟩ := h
  refine ⟨_, (pss_cons (ps_if (pt_not (pt_val (pe_c c_is_integer hr (by decide) (by rfl) (pa_cons (pv 1) (pa_cons pe_int (pa_cons (pe_gc (by rfl) T.c_MOST_FAULTS) pa_nil)))))) (pss_one ps_never) pss_nil)
      (pss_cons (ps_fld (pv 0) (pv 1) rfl)
      (pss_cons (ps_fld (pv 0) (pe_op op_add (pe_op op_mul pe_int (pv 1)) pe_int) rfl)
      (pss_cons (ps_fld (pv 0) (pe_op op_add (pe_op op_mul pe_int (pv 1)) pe_int) rfl)
      (pss_one (ps_fld (pv 0) (pe_op op_add (pv 1) pe_int) rfl)))))), ?_⟩
  walk_at "rds"
  refine ⟨n, 0, 10, rfl, ?_⟩
  walk_at "rds"
  refine ifF (by simp [h0, h1]) ?_
  walk_at "rds"
  refine ⟨p, _, dx, _, rfl, hp, T.cl_Group, T.na_Group_faults, by decide, ?_⟩
  walk_at "rds"
  refine ⟨p, _, dx, _, rfl, upd_same, T.cl_Group, T.na_Group_machines, (by show 1 < 1000; decide), ?_⟩
  walk_at "rds"
  refine ⟨p, _, dx, _, rfl, upd_same, T.cl_Group, T.na_Group_quorum, (by show 2 < 1000; decide), ?_⟩
  walk_at "rds"
  refine ⟨p, _, dx, _, rfl, upd_same, T.cl_Group, T.na_Group_blocking, (by show 3 < 1000; decide), ?_⟩
  exact q _ (fun b o e hb => by rw [upd_ne hb, upd_ne hb, upd_ne hb, upd_ne hb]; exact e) ⟨dx, upd_same⟩
theorem m_Group__members {C_Group : Addr} (T : Txt K mg C_Group) : Met P w K mg base 1 C_Group "members" (spMembers C_Group) [] := by
  refine met T.cl_Group T.me_Group__members sc_Group__members (fun vs H Q E h => ?_) (fun f cdv A outer s H vs Q E hr h => ?_)
  · obtain ⟨p, n, rfl, _⟩ := h; rfl
  obtain ⟨p, n, rfl, ⟨dx, g⟩, h0, h1, q⟩ := h
  refine ⟨_, (pss_one (ps_ret (pe_listRg (by rfl) (by rfl) T.z_list (prg_1 (by rfl) T.z_range (pe_fld (pv 0) rfl))))), ?_⟩
  walk_at "rds"
  refine ⟨p, _, dx, _, _, rfl, g, T.cl_Group, T.na_Group_machines, gF_m n, ?_⟩
  refine ⟨_, rfl, RgOk.of_le (by decide) (by omega) (by decide) (by omega), fun l hl => q l hl⟩
theorem m_Group__is_member {C_Group : Addr} (T : Txt K mg C_Group) : Met P w K mg base 2 C_Group "is_member" (spIsMember C_Group) [] := by
  have c_is_integer := c_is_integer (P := P) (w := w) (base := base) T
  refine met T.cl_Group T.me_Group__is_member sc_Group__is_member (fun vs H Q E h => ?_) (fun f cdv A outer s H vs Q E hr h => ?_)
  · obtain ⟨p, n, i, rfl, _⟩ := h; rfl
  obtain ⟨p, n, i, rfl, ⟨dx, g⟩, q⟩ := h
  refine ⟨_, (pss_one (ps_ret (pe_c c_is_integer hr (by decide) (by rfl) (pa_cons (pv 1) (pa_cons pe_int (pa_cons (pe_op op_sub (pe_fld (pv 0) rfl) pe_int) pa_nil)))))), ?_⟩
  walk_at "rds"
  refine ⟨p, _, dx, _, _, rfl, g, T.cl_Group, T.na_Group_machines, gF_m n, ?_⟩
  walk_at "rds"
  exact ⟨i, 0, _, rfl, q⟩
theorem c__law_chosen {C_Group : Addr} (T : Txt K mg C_Group) : Cal P w K mg base 2 "_law_chosen" (spChosen K) [] := by
  have c__law_next := c__law_next (P := P) (w := w) (base := base) T
  refine cal T.d__law_chosen sc__law_chosen (fun vs H Q E h => ?_) (fun f cdv A' outer s H vs Q E hr h => ?_)
  · obtain ⟨M, D, A, xs, m, rfl, _⟩ := h; rfl
  obtain ⟨M, D, A, xs, m, rfl, dr, hM, nM, nd, hm, hx, q⟩ := h
  refine ⟨_, (pss_cons (ps_set (i := 4) sc__law_chosen.nd rfl (Or.inl rfl) (pe_callTy call_list_of (by rfl) T.z_list (by decide +kernel) (pa_cons (pv 0) pa_nil)))
      (pss_cons (ps_set (i := 5) sc__law_chosen.nd rfl (Or.inl rfl) (pe_lst pa_nil))
      (pss_cons (ps_for PassesOwn.never rfl (pi_range1 (by rfl) T.z_range (pa_cons (pv 1) pa_nil)) (pg_name (i := 6) sc__law_chosen.nd rfl (Or.inl rfl)) (pss_cons (ps_set (i := 7) sc__law_chosen.nd rfl (Or.inl rfl) (pe_c c__law_next hr (by decide) (by rfl) (pa_cons (pv 2) (pa_cons (pv 3) (pa_cons (pe_callB (klen (K := K)) (by rfl) T.z_len (by decide +kernel) (pa_cons (pv 4) pa_nil)) pa_nil)))))
      (pss_cons (ps_expr (pe_bm PySem.F.plainAttrs_list PySem.F.slot_list_append PySem.F.type_list_append mt_append (pv 5) (pa_cons (pe_ix (kixl (K := K)) (pv 4) (pv 7) (fun _ _ => rfl)) pa_nil)))
      (pss_one (ps_set (i := 4) sc__law_chosen.nd rfl (Or.inl rfl) (pe_op op_cat (pe_slice (ksll (K := K)) (pv 4) po_none (po_some (pv 7))) (pe_slice (ksll (K := K)) (pv 4) (po_some (pe_op op_add (pv 7) pe_int)) po_none)))))))
      (pss_one (ps_ret (pv 5)))))), ?_⟩
  walk_at "rds"
  refine ⟨M, _, rfl, .inl (sq hM), fun R hR => ?_⟩
  walk_at "rds"
  intro c hc
  have hcR : c ≠ R := fun e => by rw [e, upd_same] at hc; cases hc
  have hc0 : H c = none := by rw [upd_ne hcR] at hc; exact hc
  walk_at "rds"
  have ncA : c ≠ A := dr.freshA hc0
  refine for_it walk_range (Pv := fun i σ H' => ∃ (R : Addr) (y6 y7 : Option V) (rs cs : List Int), σ = [some (.ref M), some (.int m), some (.ref D), some (.ref A), some (.ref R), some (.ref c), y6, y7] ∧ Mod A H H' ∧ Dr H' D A ∧
      H' R = some (.lst (rs.map V.int)) ∧ H' c = some (.lst (cs.map V.int)) ∧ R ≠ A ∧ R ≠ c ∧ rs.Nodup ∧ cs.Nodup ∧ (∀ x ∈ rs, x ∉ cs) ∧ (∀ x ∈ rs, x ∈ xs) ∧ (∀ x ∈ cs, x ∈ xs) ∧ cs.length = i ∧ rs.length + i = xs.length)
    ⟨R, none, none, xs, [], rfl, ((Same.mod (same_upd hR)).new hc), (dr.new hR).new hc, by rw [upd_ne hcR.symm, upd_same], upd_same, dr.freshA hR, hcR.symm, nd, List.nodup_nil, by simp, fun x h => h, by simp, rfl, by simp⟩ (fun _ _ _ _ _ => trivial) (fun i x σ H1 H2 hi hp hy => ?_) (fun σ H1 hp => ?_)
  · obtain ⟨R, y6, y7, rs, cs, rfl, md, dr', hR, hc', nRA, nRc, n1, n2, dj, s1, s2, l1, l2⟩ := hp
    obtain ⟨rfl, rfl⟩ := hy
    have hi' : i < m := by omega
    walk_at "rds"
    refine ⟨_, _, rfl, .inl (sq hR), ?_⟩
    walk_at "rds"
    rw [List.length_map]
    refine ⟨D, A, _, rfl, dr', by omega, fun H3 r r0 r1 md3 dr3 => ?_⟩
    obtain ⟨j, rfl⟩ := Int.eq_ofNat_of_zero_le r0
    have hj : j < rs.length := by omega
    have hR3 := md3 _ _ nRA hR
    have hc3 := md3 _ _ ncA hc'
    walk_at "rds"
    refine ⟨.inl ⟨rfl, _, sq hc3⟩, ?_⟩
    walk_at "rds"
    have g : (rs.map V.int)[j]? = some (.int rs[j]) := by
      rw [List.getElem?_map, List.getElem?_eq_getElem hj]; rfl
    refine ⟨R, _, (j : Int), _, rfl, rfl, sq hR3, atI_nat g, ?_⟩
    refine ⟨_, _, _, rfl, rfl, hc3, by rw [List.length_map]; exact sz1000' (by omega), ?_⟩
    have hR4 : (upd H3 c (.lst (cs.map V.int ++ [.int rs[j]]))) R = some (.lst (rs.map V.int)) := by rw [upd_ne nRc]; exact hR3
    walk_at "rds"
    refine ⟨R, _, rfl, sq hR4, fun p np => ?_⟩
    walk_at "rds"
    have hR5 : (upd (upd H3 c (.lst (cs.map V.int ++ [.int rs[j]]))) p (.lst (cutV (rs.map V.int) none (some (j : Int))))) R = some (.lst (rs.map V.int)) := by
      rw [upd_ne (ne_of_none hR4 np)]; exact hR4
    refine ⟨R, _, rfl, sq hR5, fun p2 np2 => ?_⟩
    obtain ⟨m1, m2, m3, m4⟩ := mid hj n1
    have md4 : Mod A H (upd H3 c (.lst (cs.map V.int ++ [.int rs[j]]))) := fun b o nb e => by
      rw [upd_ne (ne_of_none e hc0)]
      exact md3 _ _ nb (md _ _ nb e)
    have dr4 : Dr (upd H3 c (.lst (cs.map V.int ++ [.int rs[j]]))) D A := dr3.put (dr.freshD hc0) ncA
    have e1 : cutV (rs.map V.int) none (some (j : Int)) = (rs.take j).map V.int := by rw [cutV_to, List.map_take]
    have e2 : cutV (rs.map V.int) (some ((j : Int) + 1)) none = (rs.drop (j + 1)).map V.int := by
      rw [show (j : Int) + 1 = ((j + 1 : Nat) : Int) from rfl, cutV_from, List.map_drop]
    have n2p : p2 ≠ p := fun e => by rw [e, upd_same] at np2; cases np2
    refine ⟨p, p2, _, _, rfl, rfl, by rw [upd_ne n2p.symm, upd_same], upd_same, ?_, fun p3 np3 => ?_⟩
    · rw [e1, e2, List.length_map, List.length_map, ← List.length_append]
      exact sz1000 (by omega)
    have np3' : (upd H3 c (.lst (cs.map V.int ++ [.int rs[j]]))) p3 = none := by
      have a1 : p3 ≠ p2 := fun e => by rw [e, upd_same] at np3; cases np3
      rw [upd_ne a1] at np3
      have a2 : p3 ≠ p := fun e => by rw [e, upd_same] at np3; cases np3
      rw [upd_ne a2] at np3
      exact np3
    refine ⟨p3, _, _, rs.take j ++ rs.drop (j + 1), cs ++ [rs[j]], rfl, ((md4.new np).new np2).new np3, ((dr4.new np).new np2).new np3, ?_, ?_, dr4.freshA np3', ?_, m1, ?_, ?_, fun x hx => s1 x (m3 x hx), ?_, ?_, by omega⟩
    · rw [upd_same, e1, e2, List.map_append]
    · have c4 : (upd H3 c (.lst (cs.map V.int ++ [.int rs[j]]))) c = some (.lst ((cs ++ [rs[j]]).map V.int)) := lst_app
      rw [upd_ne (ne_of_none (by rw [upd_ne, upd_ne]; exact c4; exact ne_of_none c4 np; exact ne_of_none (by rw [upd_ne (ne_of_none c4 np)]; exact c4) np2) np3), upd_ne (ne_of_none (by rw [upd_ne (ne_of_none c4 np)]; exact c4) np2), upd_ne (ne_of_none c4 np)]
      exact c4
    · intro e; rw [e, upd_same] at np3'; cases np3'
    · rw [List.nodup_append]
      refine ⟨n2, by simp, fun x hx y hy e => ?_⟩
      rw [List.mem_singleton] at hy
      subst hy; subst e
      exact dj _ (List.getElem_mem hj) hx
    · intro x hx hc
      rcases List.mem_append.mp hc with hc | hc
      · exact dj x (m3 x hx) hc
      · rw [List.mem_singleton] at hc
        subst hc
        exact m2 hx
    · intro x hx
      rcases List.mem_append.mp hx with hx | hx
      · exact s2 x hx
      · rw [List.mem_singleton] at hx
        subst hx
        exact s1 _ (List.getElem_mem hj)
    · rw [List.length_append, List.length_singleton]; omega
  · obtain ⟨R, y6, y7, rs, cs, rfl, md, dr', hR, hc', nRA, nRc, n1, n2, dj, s1, s2, l1, l2⟩ := hp
    walk_at "rds"
    exact q _ _ _ md dr' ncA hc' n2 s2 (by omega)
theorem c__law_common {C_Group : Addr} (T : Txt K mg C_Group) : Cal P w K mg base 1 "_law_common" (spCommon K false) [] := by
  refine cal T.d__law_common sc__law_common (fun vs H Q E h => ?_) (fun f cdv A' outer s H vs Q E hr h => ?_)
  · obtain ⟨a, b, xs, ys, rfl, _⟩ := h; rfl
  obtain ⟨a, b, xs, ys, rfl, ha, hb, hx, q⟩ := h
  refine ⟨_, (pss_one (ps_ret (pe_lc (own := [("member", 2)]) (g := gName 2) (by rfl) sc__law_common.nd (pi_list (pv 0)) (blkOk_by (own := [("member", 2)]) (N := ["first", "second", "member"]) (sc := defScope s__law_common) (by decide +kernel)) (fun _ _ _ _ _ => pg_name (i := 2) sc__law_common.nd rfl (Or.inl rfl)) (fun _ _ _ _ _ => pts_one (pt_cmpR (kin (K := K)) (pv 2) (pv 1) (by rfl))) (fun _ _ _ _ _ => (pv 2))))), ?_⟩
  walk_at "rds"
  refine ⟨⟨_, sq ha⟩, fun D hD => ?_⟩
  refine lc_it (walk_list (K := K) (a := a) (xs := xs.map V.int)) (Pv := fun i H' => Same H H' ∧ H' D = some (.lst (((xs.take i).filter (fun x => decide (x ∈ ys))).map V.int))) ⟨same_upd hD, upd_same⟩ (fun _ _ _ h => h.1.seq (sq ha)) (fun i x H1 H2 hi hp hy => ?_) (fun H1 hp => ?_)
  · obtain ⟨sm, hl⟩ := hp
    obtain ⟨rfl, gx⟩ := hy
    have hi' : i < xs.length := by rw [List.length_map] at hi; exact hi
    rw [List.getElem?_map, List.getElem?_eq_getElem hi'] at gx
    cases gx
    refine ⟨rfl, ?_⟩
    walk_at "rds"
    refine ⟨b, _, rfl, .inl (sm.seq (sq hb)), rfl, flat_ints ys, ?_⟩
    walk_at "rds"
    rw [List.take_add_one, List.getElem?_eq_getElem hi', List.filter_append]
    refine ite2 (fun e => ?_) (fun e => ?_)
    · have e : inV (.int xs[i]) (ys.map V.int) = true := e
      rw [inV_int] at e
      walk_at "rds"
      refine ⟨_, hl, ?_, same_mut sm hD, ?_⟩
      · rw [List.length_map]
        exact sz1000' (Nat.lt_of_le_of_lt (List.length_filter_le _ _) (by rw [List.length_take]; omega))
      · rw [upd_same, List.map_append]
        simp only [Option.toList_some, List.filter_cons, e, if_true, List.filter_nil]
        rfl
    · have e : ¬ inV (.int xs[i]) (ys.map V.int) = true := e
      rw [inV_int] at e
      refine ⟨sm, ?_⟩
      rw [hl]
      simp only [Option.toList_some, List.filter_cons, e, if_false, List.filter_nil, List.append_nil, Bool.false_eq_true]
  · rw [List.length_map] at hp
    rw [List.take_length] at hp
    exact q _ _ hp.1 hD hp.2
theorem c__law_outside {C_Group : Addr} (T : Txt K mg C_Group) : Cal P w K mg base 1 "_law_outside" (spCommon K true) [] := by
  refine cal T.d__law_outside sc__law_outside (fun vs H Q E h => ?_) (fun f cdv A' outer s H vs Q E hr h => ?_)
  · obtain ⟨a, b, xs, ys, rfl, _⟩ := h; rfl
  obtain ⟨a, b, xs, ys, rfl, ha, hb, hx, q⟩ := h
  refine ⟨_, (pss_one (ps_ret (pe_lc (own := [("member", 2)]) (g := gName 2) (by rfl) sc__law_outside.nd (pi_list (pv 0)) (blkOk_by (own := [("member", 2)]) (N := ["members", "away", "member"]) (sc := defScope s__law_outside) (by decide +kernel)) (fun _ _ _ _ _ => pg_name (i := 2) sc__law_outside.nd rfl (Or.inl rfl)) (fun _ _ _ _ _ => pts_one (pt_cmpR (knin (K := K)) (pv 2) (pv 1) (by rfl))) (fun _ _ _ _ _ => (pv 2))))), ?_⟩
  walk_at "rds"
  refine ⟨⟨_, sq ha⟩, fun D hD => ?_⟩
  refine lc_it (walk_list (K := K) (a := a) (xs := xs.map V.int)) (Pv := fun i H' => Same H H' ∧ H' D = some (.lst (((xs.take i).filter (fun x => decide (x ∉ ys))).map V.int))) ⟨same_upd hD, upd_same⟩ (fun _ _ _ h => h.1.seq (sq ha)) (fun i x H1 H2 hi hp hy => ?_) (fun H1 hp => ?_)
  · obtain ⟨sm, hl⟩ := hp
    obtain ⟨rfl, gx⟩ := hy
    have hi' : i < xs.length := by rw [List.length_map] at hi; exact hi
    rw [List.getElem?_map, List.getElem?_eq_getElem hi'] at gx
    cases gx
    refine ⟨rfl, ?_⟩
    walk_at "rds"
    refine ⟨b, _, rfl, .inl (sm.seq (sq hb)), rfl, flat_ints ys, ?_⟩
    walk_at "rds"
    rw [List.take_add_one, List.getElem?_eq_getElem hi', List.filter_append]
    refine ite2 (fun e => ?_) (fun e => ?_)
    · have e : (!inV (.int xs[i]) (ys.map V.int)) = true := e
      rw [inV_int] at e
      have e : decide (xs[i] ∉ ys) = true := by rw [decide_not]; exact e
      walk_at "rds"
      refine ⟨_, hl, ?_, same_mut sm hD, ?_⟩
      · rw [List.length_map]
        exact sz1000' (Nat.lt_of_le_of_lt (List.length_filter_le _ _) (by rw [List.length_take]; omega))
      · rw [upd_same, List.map_append]
        simp only [Option.toList_some, List.filter_cons, e, if_true, List.filter_nil]
        rfl
    · have e : ¬ (!inV (.int xs[i]) (ys.map V.int)) = true := e
      rw [inV_int] at e
      have e : ¬ decide (xs[i] ∉ ys) = true := by rw [decide_not]; exact e
      refine ⟨sm, ?_⟩
      rw [hl]
      simp only [Option.toList_some, List.filter_cons, e, if_false, List.filter_nil, List.append_nil, Bool.false_eq_true]
  · rw [List.length_map] at hp
    rw [List.take_length] at hp
    exact q _ _ hp.1 hD hp.2
theorem ok_law {C_Group : Addr} {f : Addr} {fd : FuncData} (F : L2.Fun K "law" "law" s_law f fd) (T : Txt K mg C_Group) : FnOk P w K mg base L2.CX0 4 f fd ["script"] (spLaw K) := by
  have c__law_draws := c__law_draws (P := P) (w := w) (base := base) T
  have c__law_next := c__law_next (P := P) (w := w) (base := base) T
  have c__law_chosen := c__law_chosen (P := P) (w := w) (base := base) T
  have c__law_common := c__law_common (P := P) (w := w) (base := base) T
  have c__law_outside := c__law_outside (P := P) (w := w) (base := base) T
  have k_Group := k_Group (P := P) (w := w) (base := base) T
  have m_Group__members := m_Group__members (P := P) (w := w) (base := base) T
  have m_Group__is_member := m_Group__is_member (P := P) (w := w) (base := base) T
  refine F.ok sc_law (fun vs H Q E h => ?_) (fun cdv A' outer s H vs Q E hr h => ?_)
  · obtain ⟨a, ns, rfl, _⟩ := h; rfl
  obtain ⟨a, ns, rfl, hS, hlen, q⟩ := h
  refine ⟨_, (pss_cons (ps_set (i := 1) sc_law.nd rfl (Or.inl rfl) (pe_c c__law_draws hr (by decide) (by rfl) (pa_cons (pv 0) pa_nil)))
      (pss_cons (ps_set (i := 2) sc_law.nd rfl (Or.inl rfl) (pe_lst (pa_cons pe_int pa_nil)))
      (pss_cons (ps_for PassesOwn.never rfl (pi_range1 (by rfl) T.z_range (pa_cons pe_int pa_nil)) (pg_name (i := 3) sc_law.nd rfl (Or.inl rfl)) (pss_cons (ps_set (i := 4) sc_law.nd rfl (Or.inl rfl) (pe_mk k_Group hr (by decide) (by rfl) (pa_cons (pe_c c__law_next hr (by decide) (by rfl) (pa_cons (pv 1) (pa_cons (pv 2) (pa_cons pe_int pa_nil)))) pa_nil)))
      (pss_cons (ps_set (i := 5) sc_law.nd rfl (Or.inl rfl) (pe_mt0 m_Group__members hr (by decide) (pv 4)))
      (pss_cons (ps_set (i := 6) sc_law.nd rfl (Or.inl rfl) (pe_c c__law_chosen hr (by decide) (by rfl) (pa_cons (pv 5) (pa_cons (pe_fld (pv 4) rfl) (pa_cons (pv 1) (pa_cons (pv 2) pa_nil))))))
      (pss_cons (ps_set (i := 7) sc_law.nd rfl (Or.inl rfl) (pe_c c__law_chosen hr (by decide) (by rfl) (pa_cons (pv 5) (pa_cons (pe_fld (pv 4) rfl) (pa_cons (pv 1) (pa_cons (pv 2) pa_nil))))))
      (pss_cons (ps_set (i := 8) sc_law.nd rfl (Or.inl rfl) (pe_c c__law_chosen hr (by decide) (by rfl) (pa_cons (pv 5) (pa_cons (pe_fld (pv 4) rfl) (pa_cons (pv 1) (pa_cons (pv 2) pa_nil))))))
      (pss_cons (ps_set (i := 9) sc_law.nd rfl (Or.inl rfl) (pe_c c__law_chosen hr (by decide) (by rfl) (pa_cons (pv 5) (pa_cons (pe_fld (pv 4) rfl) (pa_cons (pv 1) (pa_cons (pv 2) pa_nil))))))
      (pss_cons (ps_set (i := 10) sc_law.nd rfl (Or.inl rfl) (pe_c c__law_common hr (by decide) (by rfl) (pa_cons (pv 6) (pa_cons (pv 7) pa_nil))))
      (pss_cons (ps_if (PW.pt (pw_or (pt_cmpR op_lt (pe_callB (klen (K := K)) (by rfl) T.z_len (by decide +kernel) (pa_cons (pv 10) pa_nil)) (pe_fld (pv 4) rfl) (nomark _)) (pw_or1 (pt_cmpR op_lt (pe_callB (klen (K := K)) (by rfl) T.z_len (by decide +kernel) (pa_cons (pe_c c__law_outside hr (by decide) (by rfl) (pa_cons (pv 10) (pa_cons (pv 8) pa_nil))) pa_nil)) pe_int (nomark _))))) (pss_one (ps_ret pe_bl)) pss_nil)
      (pss_cons (ps_if (pt_cmpR op_lt (pe_callB (klen (K := K)) (by rfl) T.z_len (by decide +kernel) (pa_cons (pe_c c__law_outside hr (by decide) (by rfl) (pa_cons (pv 5) (pa_cons (pv 8) pa_nil))) pa_nil)) (pe_fld (pv 4) rfl) (nomark _)) (pss_one (ps_ret pe_bl)) pss_nil)
      (pss_one (ps_if (PW.pt (pw_or (pt_cmpR op_lt (pe_callB (klen (K := K)) (by rfl) T.z_len (by decide +kernel) (pa_cons (pe_c c__law_outside hr (by decide) (by rfl) (pa_cons (pv 9) (pa_cons (pv 8) pa_nil))) pa_nil)) pe_int (nomark _)) (pw_or1 (pt_not (pt_val (pe_mt m_Group__is_member hr (by decide) (pv 4) (pa_cons (pe_ix (kixl (K := K)) (pv 9) pe_int (fun _ _ => rfl)) pa_nil))))))) (pss_one (ps_ret pe_bl)) pss_nil))))))))))))
      (pss_one (ps_ret pe_bl))))), ?_⟩
  walk_at "rds"
  refine ⟨a, ns, rfl, hS, hlen, fun H1 D ds sm1 nD hD hrg hdl => ?_⟩
  walk_at "rds"
  intro A nA
  have dr0 : Dr (upd H1 A (.lst [.int 0])) D A := ⟨ne_of_none hD nA, ds, 0, by rw [upd_ne (ne_of_none hD nA)]; exact hD, upd_same, hrg, hdl⟩
  walk_at "rds"
  refine for_it walk_range (Pv := fun i σ H' => ∃ y3 y4 y5 y6 y7 y8 y9 y10 y11, σ = [some (.ref a), some (.ref D), some (.ref A), y3, y4, y5, y6, y7, y8, y9, y11] ∧ y10 = (0 : Nat) ∧ Dr H' D A) ⟨none, none, none, none, none, none, none, 0, none, rfl, rfl, dr0⟩ (fun _ _ _ _ _ => trivial) (fun i x σ H2 H3 hi hp hy => ?_) (fun σ H2 hp => ?_)
  · obtain ⟨y3, y4, y5, y6, y7, y8, y9, y10, y11, rfl, _, dr⟩ := hp
    obtain ⟨rfl, rfl⟩ := hy
    walk_at "rds"
    refine ⟨D, A, 11, rfl, dr, by decide, fun H3 r r0 r1 md3 dr3 => ?_⟩
    intro x dx nx ndx nex
    refine ⟨x, dx, r, rfl, upd_same, r0, by omega, fun H4 kp gr => ?_⟩
    have sm4 : Same H3 H4 := Same.made nx ndx kp
    have dr4 := dr3.same sm4
    have nxA : x ≠ A := dr3.freshA nx
    walk_at "rds"
    obtain ⟨dx', g4⟩ := id gr
    refine ⟨x, dx', _, rfl, g4, rfl, ?_⟩
    refine ⟨x, r, rfl, gr, r0, by omega, fun M nM => ?_⟩
    obtain ⟨n, rfl⟩ := Int.eq_ofNat_of_zero_le r0
    have hn : n ≤ 10 := by omega
    generalize eU : (List.range (3 * n + 1)).map (fun (i : Nat) => (i : Int)) = U
    have nU : U.Nodup := by
      rw [← eU]
      exact List.nodup_range.map _ (fun a b h e => h (Int.ofNat.inj e))
    have lU : U.length = 3 * n + 1 := by rw [← eU, List.length_map, List.length_range]
    have mU : ∀ z ∈ U, 0 ≤ z ∧ z ≤ 3 * (n : Int) := fun z hz => by
      rw [← eU] at hz
      obtain ⟨i, hi, rfl⟩ := List.mem_map.mp hz
      have := List.mem_range.mp hi
      omega
    have eM : rgV 0 (3 * (n : Int) + 1) = U.map V.int := by
      unfold rgV
      rw [← eU, List.map_map, show (3 * (n : Int) + 1 - 0).toNat = 3 * n + 1 by omega]
      refine List.map_congr_left fun i _ => ?_
      show V.int (0 + (i : Int)) = V.int (i : Int)
      rw [Int.zero_add]
    rw [eM]
    have nxM : x ≠ M := ne_of_none g4 nM
    have dr5 := dr4.new (o := .lst (U.map V.int)) nM
    have nMA : M ≠ A := dr4.freshA nM
    have g5 : (upd H4 M (.lst (U.map V.int))) x = some (.ins C_Group dx' (gF n)) := by rw [upd_ne nxM]; exact g4
    have m5 : (upd H4 M (.lst (U.map V.int))) M = some (.lst (U.map V.int)) := upd_same
    generalize upd H4 M (.lst (U.map V.int)) = H5 at dr5 g5 m5
    walk_at "rds"
    refine ⟨x, C_Group, dx', _, _, rfl, g5, T.cl_Group, T.na_Group_quorum, gF_q n, ?_⟩
    walk_at "rds"
    refine ⟨M, D, A, U, 2 * n + 1, rfl, dr5, m5, nMA, nU, by omega, by omega, fun H6 p1 first md6 dr6 np1 e1 n1 s1 l1 => ?_⟩
    have g6 := md6 _ _ nxA g5
    have m6 := md6 _ _ nMA m5
    walk_at "rds"
    refine ⟨x, C_Group, dx', _, _, rfl, g6, T.cl_Group, T.na_Group_quorum, gF_q n, ?_⟩
    walk_at "rds"
    refine ⟨M, D, A, U, 2 * n + 1, rfl, dr6, m6, nMA, nU, by omega, by omega, fun H7 p2 second md7 dr7 np2 e2 n2 s2 l2 => ?_⟩
    have g7 := md7 _ _ nxA g6
    have m7 := md7 _ _ nMA m6
    have e1 := md7 _ _ np1 e1
    walk_at "rds"
    refine ⟨x, C_Group, dx', _, _, rfl, g7, T.cl_Group, T.na_Group_faults, gF_f n, ?_⟩
    walk_at "rds"
    refine ⟨M, D, A, U, n, rfl, dr7, m7, nMA, nU, by omega, by omega, fun H8 p3 faulty md8 dr8 np3 e3 n3 s3 l3 => ?_⟩
    have g8 := md8 _ _ nxA g7
    have m8 := md8 _ _ nMA m7
    have e1 := md8 _ _ np1 e1
    have e2 := md8 _ _ np2 e2
    walk_at "rds"
    refine ⟨x, C_Group, dx', _, _, rfl, g8, T.cl_Group, T.na_Group_blocking, gF_b n, ?_⟩
    walk_at "rds"
    refine ⟨M, D, A, U, n + 1, rfl, dr8, m8, nMA, nU, by omega, by omega, fun H9 p4 few md9 dr9 np4 e4 n4 s4 l4 => ?_⟩
    have g9 := md9 _ _ nxA g8
    have m9 := md9 _ _ nMA m8
    have e1 := md9 _ _ np1 e1
    have e2 := md9 _ _ np2 e2
    have e3 := md9 _ _ np3 e3
    walk_at "rds"
    refine ⟨p1, p2, first, second, rfl, e1, e2, by omega, fun H10 p5 sm10 np5 e5 => ?_⟩
    have g10 := sm10 _ _ g9
    have dr10 := dr9.same sm10
    have e3 := sm10 _ _ e3
    have e4 := sm10 _ _ e4
    have m10 := sm10 _ _ m9
    have c1 := in_len n1 n2 s1 s2
    have e5 : H10 p5 = some (.lst ((first.filter (fun x => decide (x ∈ second))).map V.int)) := e5
    have n5 : (first.filter (fun x => decide (x ∈ second))).Nodup := n1.filter _
    have l5 : (first.filter (fun x => decide (x ∈ second))).length ≤ 1000 := Nat.le_trans (List.length_filter_le _ _) (by omega)
    generalize first.filter (fun x => decide (x ∈ second)) = common at e5 n5 c1 l5
    walk_at "rds"
    refine ⟨p5, _, rfl, .inl (sq e5), ?_⟩
    walk_at "rds"
    refine ⟨x, C_Group, dx', _, _, rfl, g10, T.cl_Group, T.na_Group_blocking, gF_b n, ?_⟩
    walk_at "rds"
    refine ifF (decide_eq_false (by rw [List.length_map]; omega)) ?_
    walk_at "rds"
    refine ⟨p5, p3, common, faulty, rfl, e5, e3, l5, fun H11 p6 sm11 np6 e6 => ?_⟩
    have c2 := out_len (B := faulty) n5
    have e6 : H11 p6 = some (.lst ((common.filter (fun x => decide (x ∉ faulty))).map V.int)) := e6
    have g11 := sm11 _ _ g10
    have dr11 := dr10.same sm11
    have e3 := sm11 _ _ e3
    have e4 := sm11 _ _ e4
    have m11 := sm11 _ _ m10
    walk_at "rds"
    refine ⟨p6, _, rfl, .inl (sq e6), ?_⟩
    walk_at "rds"
    refine ifF (decide_eq_false (by rw [List.length_map]; omega)) ?_
    walk_at "rds"
    refine ⟨M, p3, U, faulty, rfl, m11, e3, by omega, fun H12 p7 sm12 np7 e7 => ?_⟩
    have c3 := out_len (B := faulty) nU
    have e7 : H12 p7 = some (.lst ((U.filter (fun x => decide (x ∉ faulty))).map V.int)) := e7
    have g12 := sm12 _ _ g11
    have dr12 := dr11.same sm12
    have e3 := sm12 _ _ e3
    have e4 := sm12 _ _ e4
    walk_at "rds"
    refine ⟨p7, _, rfl, .inl (sq e7), ?_⟩
    walk_at "rds"
    refine ⟨x, C_Group, dx', _, _, rfl, g12, T.cl_Group, T.na_Group_quorum, gF_q n, ?_⟩
    walk_at "rds"
    refine ifF (decide_eq_false (by rw [List.length_map]; omega)) ?_
    walk_at "rds"
    refine ⟨p4, p3, few, faulty, rfl, e4, e3, by omega, fun H13 p8 sm13 np8 e8 => ?_⟩
    have c4 := out_len (B := faulty) n4
    have e8 : H13 p8 = some (.lst ((few.filter (fun x => decide (x ∉ faulty))).map V.int)) := e8
    have g13 := sm13 _ _ g12
    have dr13 := dr12.same sm13
    have e4 := sm13 _ _ e4
    walk_at "rds"
    refine ⟨p8, _, rfl, .inl (sq e8), ?_⟩
    walk_at "rds"
    refine ifF (decide_eq_false (by rw [List.length_map]; omega)) ?_
    walk_at "rds"
    have h4 : 0 < few.length := by omega
    have gf : (few.map V.int)[0]? = some (.int few[0]) := by
      rw [List.getElem?_map, List.getElem?_eq_getElem h4]; rfl
    have in4 := mU _ (s4 _ (List.getElem_mem h4))
    refine ⟨x, dx', _, rfl, g13, rfl, ?_⟩
    walk_at "rds"
    refine ⟨p4, _, (0 : Int), _, rfl, rfl, sq e4, atI_nat (j := 0) gf, ?_⟩
    refine ⟨x, n, few[0], rfl, ⟨dx', g13⟩, ?_⟩
    walk_at "rds"
    refine ifF (by rw [decide_eq_true (by omega)]; rfl) ?_
    exact ⟨_, _, _, _, _, _, _, 0, _, rfl, rfl, dr13⟩
  · obtain ⟨y3, y4, y5, y6, y7, y8, y9, y10, y11, rfl, _, dr⟩ := hp
    walk_at "rds"
    exact q _
end
theorem fin {C_Group : Addr} {P : Program} {w : World} {K : PySem.W.Frag} {mg : Str → Option Value} {fa : Addr} (hfa : mg "law" = some (.ref fa)) (T : Txt K mg C_Group) :
    ∃ fd : FuncData, (∀ (s : Shared) (u : Value), BindsTo s fd ⟨[u], []⟩ [("script", u)]) ∧ ∀ base : Heap, K.In base → base.Ns mainGlobals mg → FnOk P w K mg base L2.CX0 4 fa fd ["script"] (spLaw K) := by
  obtain ⟨f, fd, F, hm, b⟩ := T.d_law.ex
  cases hfa.symm.trans hm
  refine ⟨fd, fun s u => ?_, fun base _ _ => ok_law F T⟩
  obtain ⟨oc, od, kV, doc, pm, an, cdv, ct, osl, rfl, l, _⟩ := F.ex
  exact .of_eq rfl
theorem all_mk {K : PySem.W.Frag} {h : Heap} {mg : Str → Option Value} (X : K.In h) (G : h.Ns mainGlobals mg)
    {f_is_integer : Addr} {od_is_integer an_is_integer : Option Addr} {sl_is_integer : Array (Option Value)} {oc_is_integer kV_is_integer dc_is_integer pm_is_integer cd_is_integer ct_is_integer : Value}
    {f__law_draws : Addr} {od__law_draws an__law_draws : Option Addr} {sl__law_draws : Array (Option Value)} {oc__law_draws kV__law_draws dc__law_draws pm__law_draws cd__law_draws ct__law_draws : Value}
    {f__law_next : Addr} {od__law_next an__law_next : Option Addr} {sl__law_next : Array (Option Value)} {oc__law_next kV__law_next dc__law_next pm__law_next cd__law_next ct__law_next : Value}
    {f__law_big : Addr} {od__law_big an__law_big : Option Addr} {sl__law_big : Array (Option Value)} {oc__law_big kV__law_big dc__law_big pm__law_big cd__law_big ct__law_big : Value}
    {f__law_chosen : Addr} {od__law_chosen an__law_chosen : Option Addr} {sl__law_chosen : Array (Option Value)} {oc__law_chosen kV__law_chosen dc__law_chosen pm__law_chosen cd__law_chosen ct__law_chosen : Value}
    {f__law_common : Addr} {od__law_common an__law_common : Option Addr} {sl__law_common : Array (Option Value)} {oc__law_common kV__law_common dc__law_common pm__law_common cd__law_common ct__law_common : Value}
    {f__law_outside : Addr} {od__law_outside an__law_outside : Option Addr} {sl__law_outside : Array (Option Value)} {oc__law_outside kV__law_outside dc__law_outside pm__law_outside cd__law_outside ct__law_outside : Value}
    {f_law : Addr} {od_law an_law : Option Addr} {sl_law : Array (Option Value)} {oc_law kV_law dc_law pm_law cd_law ct_law : Value}
    {C_Group : Addr}
    {f_Group____init__ : Addr} {od_Group____init__ an_Group____init__ : Option Addr} {sl_Group____init__ : Array (Option Value)} {oc_Group____init__ kV_Group____init__ dc_Group____init__ pm_Group____init__ cd_Group____init__ ct_Group____init__ : Value}
    {f_Group__members : Addr} {od_Group__members an_Group__members : Option Addr} {sl_Group__members : Array (Option Value)} {oc_Group__members kV_Group__members dc_Group__members pm_Group__members cd_Group__members ct_Group__members : Value}
    {f_Group__is_member : Addr} {od_Group__is_member an_Group__is_member : Option Addr} {sl_Group__is_member : Array (Option Value)} {oc_Group__is_member kV_Group__is_member dc_Group__is_member pm_Group__is_member cd_Group__is_member ct_Group__is_member : Value}
    {t_MOST_FAULTS : Tok}
    (a_is_integer : PySem.W.nsIn K mainGlobals "is_integer" = some (some (.ref f_is_integer)))
    (l_is_integer : K.lookup f_is_integer = some ⟨oc_is_integer, od_is_integer, .func (PySem.W.fnOf "is_integer" "is_integer" (defArgs s_is_integer) (defBody s_is_integer) (defScope s_is_integer) .none kV_is_integer dc_is_integer pm_is_integer an_is_integer cd_is_integer ct_is_integer), sl_is_integer⟩)
    (e_is_integer : PySem.W.codeIn K cd_is_integer "is_integer" = true)
    (k_is_integer : PySem.W.keepIn K (.ref f_is_integer) = true)
    (a__law_draws : PySem.W.nsIn K mainGlobals "_law_draws" = some (some (.ref f__law_draws)))
    (l__law_draws : K.lookup f__law_draws = some ⟨oc__law_draws, od__law_draws, .func (PySem.W.fnOf "_law_draws" "_law_draws" (defArgs s__law_draws) (defBody s__law_draws) (defScope s__law_draws) .none kV__law_draws dc__law_draws pm__law_draws an__law_draws cd__law_draws ct__law_draws), sl__law_draws⟩)
    (e__law_draws : PySem.W.codeIn K cd__law_draws "_law_draws" = true)
    (k__law_draws : PySem.W.keepIn K (.ref f__law_draws) = true)
    (a__law_next : PySem.W.nsIn K mainGlobals "_law_next" = some (some (.ref f__law_next)))
    (l__law_next : K.lookup f__law_next = some ⟨oc__law_next, od__law_next, .func (PySem.W.fnOf "_law_next" "_law_next" (defArgs s__law_next) (defBody s__law_next) (defScope s__law_next) .none kV__law_next dc__law_next pm__law_next an__law_next cd__law_next ct__law_next), sl__law_next⟩)
    (e__law_next : PySem.W.codeIn K cd__law_next "_law_next" = true)
    (k__law_next : PySem.W.keepIn K (.ref f__law_next) = true)
    (a__law_big : PySem.W.nsIn K mainGlobals "_law_big" = some (some (.ref f__law_big)))
    (l__law_big : K.lookup f__law_big = some ⟨oc__law_big, od__law_big, .func (PySem.W.fnOf "_law_big" "_law_big" (defArgs s__law_big) (defBody s__law_big) (defScope s__law_big) .none kV__law_big dc__law_big pm__law_big an__law_big cd__law_big ct__law_big), sl__law_big⟩)
    (e__law_big : PySem.W.codeIn K cd__law_big "_law_big" = true)
    (k__law_big : PySem.W.keepIn K (.ref f__law_big) = true)
    (a__law_chosen : PySem.W.nsIn K mainGlobals "_law_chosen" = some (some (.ref f__law_chosen)))
    (l__law_chosen : K.lookup f__law_chosen = some ⟨oc__law_chosen, od__law_chosen, .func (PySem.W.fnOf "_law_chosen" "_law_chosen" (defArgs s__law_chosen) (defBody s__law_chosen) (defScope s__law_chosen) .none kV__law_chosen dc__law_chosen pm__law_chosen an__law_chosen cd__law_chosen ct__law_chosen), sl__law_chosen⟩)
    (e__law_chosen : PySem.W.codeIn K cd__law_chosen "_law_chosen" = true)
    (k__law_chosen : PySem.W.keepIn K (.ref f__law_chosen) = true)
    (a__law_common : PySem.W.nsIn K mainGlobals "_law_common" = some (some (.ref f__law_common)))
    (l__law_common : K.lookup f__law_common = some ⟨oc__law_common, od__law_common, .func (PySem.W.fnOf "_law_common" "_law_common" (defArgs s__law_common) (defBody s__law_common) (defScope s__law_common) .none kV__law_common dc__law_common pm__law_common an__law_common cd__law_common ct__law_common), sl__law_common⟩)
    (e__law_common : PySem.W.codeIn K cd__law_common "_law_common" = true)
    (k__law_common : PySem.W.keepIn K (.ref f__law_common) = true)
    (a__law_outside : PySem.W.nsIn K mainGlobals "_law_outside" = some (some (.ref f__law_outside)))
    (l__law_outside : K.lookup f__law_outside = some ⟨oc__law_outside, od__law_outside, .func (PySem.W.fnOf "_law_outside" "_law_outside" (defArgs s__law_outside) (defBody s__law_outside) (defScope s__law_outside) .none kV__law_outside dc__law_outside pm__law_outside an__law_outside cd__law_outside ct__law_outside), sl__law_outside⟩)
    (e__law_outside : PySem.W.codeIn K cd__law_outside "_law_outside" = true)
    (k__law_outside : PySem.W.keepIn K (.ref f__law_outside) = true)
    (a_law : PySem.W.nsIn K mainGlobals "law" = some (some (.ref f_law)))
    (l_law : K.lookup f_law = some ⟨oc_law, od_law, .func (PySem.W.fnOf "law" "law" (defArgs s_law) (defBody s_law) (defScope s_law) .none kV_law dc_law pm_law an_law cd_law ct_law), sl_law⟩)
    (e_law : PySem.W.codeIn K cd_law "law" = true)
    (k_law : PySem.W.keepIn K (.ref f_law) = true)
    (ac_Group : PySem.W.nsIn K mainGlobals "Group" = some (some (.ref C_Group)))
    (pg_Group : PySem.W.plainGet K C_Group Str.empty = true)
    (hd_Group : PySem.W.hasDictIn K C_Group = true)
    (po_Group : PySem.W.plainOver K C_Group = true)
    (sa_Group : PySem.W.findIn K (.ref C_Group) "__setattr__" = some (some (.builtin "object.__setattr__")))
    (mk_Group : PySem.W.makesIn K C_Group = true)
    (kc_Group : PySem.W.keepIn K (.ref C_Group) = true)
    (na_Group_faults : PySem.W.findIn K (.ref C_Group) "faults" = some none)
    (na_Group_machines : PySem.W.findIn K (.ref C_Group) "machines" = some none)
    (na_Group_quorum : PySem.W.findIn K (.ref C_Group) "quorum" = some none)
    (na_Group_blocking : PySem.W.findIn K (.ref C_Group) "blocking" = some none)
    (a_Group____init__ : PySem.W.findIn K (.ref C_Group) "__init__" = some (some (.ref f_Group____init__)))
    (i_Group____init__ : PySem.W.isFn K (.ref f_Group____init__) = true)
    (l_Group____init__ : K.lookup f_Group____init__ = some ⟨oc_Group____init__, od_Group____init__, .func (PySem.W.fnOf "__init__" "Group.__init__" (defArgs s_Group____init__) (defBody s_Group____init__) (defScope s_Group____init__) .none kV_Group____init__ dc_Group____init__ pm_Group____init__ an_Group____init__ cd_Group____init__ ct_Group____init__), sl_Group____init__⟩)
    (e_Group____init__ : PySem.W.codeIn K cd_Group____init__ "Group.__init__" = true)
    (k_Group____init__ : PySem.W.keepIn K (.ref f_Group____init__) = true)
    (a_Group__members : PySem.W.findIn K (.ref C_Group) "members" = some (some (.ref f_Group__members)))
    (i_Group__members : PySem.W.isFn K (.ref f_Group__members) = true)
    (l_Group__members : K.lookup f_Group__members = some ⟨oc_Group__members, od_Group__members, .func (PySem.W.fnOf "members" "Group.members" (defArgs s_Group__members) (defBody s_Group__members) (defScope s_Group__members) .none kV_Group__members dc_Group__members pm_Group__members an_Group__members cd_Group__members ct_Group__members), sl_Group__members⟩)
    (e_Group__members : PySem.W.codeIn K cd_Group__members "Group.members" = true)
    (k_Group__members : PySem.W.keepIn K (.ref f_Group__members) = true)
    (a_Group__is_member : PySem.W.findIn K (.ref C_Group) "is_member" = some (some (.ref f_Group__is_member)))
    (i_Group__is_member : PySem.W.isFn K (.ref f_Group__is_member) = true)
    (l_Group__is_member : K.lookup f_Group__is_member = some ⟨oc_Group__is_member, od_Group__is_member, .func (PySem.W.fnOf "is_member" "Group.is_member" (defArgs s_Group__is_member) (defBody s_Group__is_member) (defScope s_Group__is_member) .none kV_Group__is_member dc_Group__is_member pm_Group__is_member an_Group__is_member cd_Group__is_member ct_Group__is_member), sl_Group__is_member⟩)
    (e_Group__is_member : PySem.W.codeIn K cd_Group__is_member "Group.is_member" = true)
    (k_Group__is_member : PySem.W.keepIn K (.ref f_Group__is_member) = true)
    (a_MOST_FAULTS : PySem.W.nsIn K mainGlobals "MOST_FAULTS" = some (some (.int 10 t_MOST_FAULTS)))
    (z_abs : PySem.W.nsIn K mainGlobals "abs" = some none)
    (z_bool : PySem.W.nsIn K mainGlobals "bool" = some none)
    (z_int : PySem.W.nsIn K mainGlobals "int" = some none)
    (z_isinstance : PySem.W.nsIn K mainGlobals "isinstance" = some none)
    (z_len : PySem.W.nsIn K mainGlobals "len" = some none)
    (z_list : PySem.W.nsIn K mainGlobals "list" = some none)
    (z_range : PySem.W.nsIn K mainGlobals "range" = some none) : Txt K mg C_Group :=
  { d_is_integer := ⟨_, _, (fun_mk l_is_integer e_is_integer k_is_integer), PySem.W.mg_of X G a_is_integer, ((fun_mk (st := s_is_integer) l_is_integer e_is_integer k_is_integer).binds (ps := ["value", "least", "greatest"]) fun _ _ _ _ _ _ us hl => match us, hl with | [_, _, _], _ => rfl)⟩,
    d__law_draws := ⟨_, _, (fun_mk l__law_draws e__law_draws k__law_draws), PySem.W.mg_of X G a__law_draws, ((fun_mk (st := s__law_draws) l__law_draws e__law_draws k__law_draws).binds (ps := ["script"]) fun _ _ _ _ _ _ us hl => match us, hl with | [_], _ => rfl)⟩,
    d__law_next := ⟨_, _, (fun_mk l__law_next e__law_next k__law_next), PySem.W.mg_of X G a__law_next, ((fun_mk (st := s__law_next) l__law_next e__law_next k__law_next).binds (ps := ["draws", "at", "many"]) fun _ _ _ _ _ _ us hl => match us, hl with | [_, _, _], _ => rfl)⟩,
    d__law_big := ⟨_, _, (fun_mk l__law_big e__law_big k__law_big), PySem.W.mg_of X G a__law_big, ((fun_mk (st := s__law_big) l__law_big e__law_big k__law_big).binds (ps := ["draws", "at", "many"]) fun _ _ _ _ _ _ us hl => match us, hl with | [_, _, _], _ => rfl)⟩,
    d__law_chosen := ⟨_, _, (fun_mk l__law_chosen e__law_chosen k__law_chosen), PySem.W.mg_of X G a__law_chosen, ((fun_mk (st := s__law_chosen) l__law_chosen e__law_chosen k__law_chosen).binds (ps := ["members", "many", "draws", "at"]) fun _ _ _ _ _ _ us hl => match us, hl with | [_, _, _, _], _ => rfl)⟩,
    d__law_common := ⟨_, _, (fun_mk l__law_common e__law_common k__law_common), PySem.W.mg_of X G a__law_common, ((fun_mk (st := s__law_common) l__law_common e__law_common k__law_common).binds (ps := ["first", "second"]) fun _ _ _ _ _ _ us hl => match us, hl with | [_, _], _ => rfl)⟩,
    d__law_outside := ⟨_, _, (fun_mk l__law_outside e__law_outside k__law_outside), PySem.W.mg_of X G a__law_outside, ((fun_mk (st := s__law_outside) l__law_outside e__law_outside k__law_outside).binds (ps := ["members", "away"]) fun _ _ _ _ _ _ us hl => match us, hl with | [_, _], _ => rfl)⟩,
    d_law := ⟨_, _, (fun_mk l_law e_law k_law), PySem.W.mg_of X G a_law, ((fun_mk (st := s_law) l_law e_law k_law).binds (ps := ["script"]) fun _ _ _ _ _ _ us hl => match us, hl with | [_], _ => rfl)⟩,
    cl_Group := ⟨pg_Group, hd_Group, po_Group, sa_Group⟩,
    g_Group := PySem.W.mg_of X G ac_Group,
    na_Group_faults := na_Group_faults,
    na_Group_machines := na_Group_machines,
    na_Group_quorum := na_Group_quorum,
    na_Group_blocking := na_Group_blocking,
    mk_Group := ⟨_, _, ⟨mk_Group, a_Group____init__, i_Group____init__, kc_Group⟩, (fun_mk l_Group____init__ e_Group____init__ k_Group____init__), ((fun_mk (st := s_Group____init__) l_Group____init__ e_Group____init__ k_Group____init__).binds (ps := ["self", "faults"]) fun _ _ _ _ _ _ us hl => match us, hl with | [_, _], _ => rfl)⟩,
    me_Group__members := ⟨_, _, ⟨a_Group__members, i_Group__members, k_Group__members⟩, (fun_mk l_Group__members e_Group__members k_Group__members), ((fun_mk (st := s_Group__members) l_Group__members e_Group__members k_Group__members).binds (ps := ["self"]) fun _ _ _ _ _ _ us hl => match us, hl with | [_], _ => rfl)⟩,
    me_Group__is_member := ⟨_, _, ⟨a_Group__is_member, i_Group__is_member, k_Group__is_member⟩, (fun_mk l_Group__is_member e_Group__is_member k_Group__is_member), ((fun_mk (st := s_Group__is_member) l_Group__is_member e_Group__is_member k_Group__is_member).binds (ps := ["self", "value"]) fun _ _ _ _ _ _ us hl => match us, hl with | [_, _], _ => rfl)⟩,
    c_MOST_FAULTS := ⟨_, PySem.W.mg_of X G a_MOST_FAULTS, _, rfl⟩,
    z_abs := PySem.W.mg_none_of X G z_abs,
    z_bool := PySem.W.mg_none_of X G z_bool,
    z_int := PySem.W.mg_none_of X G z_int,
    z_isinstance := PySem.W.mg_none_of X G z_isinstance,
    z_len := PySem.W.mg_none_of X G z_len,
    z_list := PySem.W.mg_none_of X G z_list,
    z_range := PySem.W.mg_none_of X G z_range }
end Law
open PySem PySem.W PyProof.Rows
set_option maxRecDepth 100000 in
set_option maxHeartbeats 0 in
theorem PySem.Challenge.cw_oathledger_k02_quorums_meet_holds : PySem.Challenge.rw_oathledger_k02_quorums_meet.Holds := by
  w_on; o_law; k_head; (case hw => w_witness2)
  k_fill
  refine L2.walk_of (l := PySem.Challenge.rw_oathledger_k02_quorums_meet) (n := 63) (k := 4) (x := "script") (CX := fun _ => L2.CX0) (sp := fun w => Law.spLaw _) rfl (by decide) rfl ⟨rfl, by decide, by decide⟩ (fun w h Y => PySem.W.kIn_of Y) ?F (fun _ _ a ns hl _ hS => ⟨a, ns, rfl, hS, hl, fun _ => rfl⟩) (fun _ _ _ _ _ h => h)
  case F =>
    intro w mg fa h KX G hmg
    refine' Law.fin hmg (Law.all_mk KX G ?a_is_integer ?l_is_integer ?e_is_integer ?k_is_integer ?a__law_draws ?l__law_draws ?e__law_draws ?k__law_draws ?a__law_next ?l__law_next ?e__law_next ?k__law_next ?a__law_big ?l__law_big ?e__law_big ?k__law_big ?a__law_chosen ?l__law_chosen ?e__law_chosen ?k__law_chosen ?a__law_common ?l__law_common ?e__law_common ?k__law_common ?a__law_outside ?l__law_outside ?e__law_outside ?k__law_outside ?a_law ?l_law ?e_law ?k_law ?ac_Group ?pg_Group ?hd_Group ?po_Group ?sa_Group ?mk_Group ?kc_Group ?na_Group_faults ?na_Group_machines ?na_Group_quorum ?na_Group_blocking ?a_Group____init__ ?i_Group____init__ ?l_Group____init__ ?e_Group____init__ ?k_Group____init__ ?a_Group__members ?i_Group__members ?l_Group__members ?e_Group__members ?k_Group__members ?a_Group__is_member ?i_Group__is_member ?l_Group__is_member ?e_Group__is_member ?k_Group__is_member ?a_MOST_FAULTS ?z_abs ?z_bool ?z_int ?z_isinstance ?z_len ?z_list ?z_range)
    (case a_is_integer => k_is)
    (case l_is_integer => k_is)
    (case e_is_integer => k_is)
    (case k_is_integer => k_is)
    (case a__law_draws => k_is)
    (case l__law_draws => k_is)
    (case e__law_draws => k_is)
    (case k__law_draws => k_is)
    (case a__law_next => k_is)
    (case l__law_next => k_is)
    (case e__law_next => k_is)
    (case k__law_next => k_is)
    (case a__law_big => k_is)
    (case l__law_big => k_is)
    (case e__law_big => k_is)
    (case k__law_big => k_is)
    (case a__law_chosen => k_is)
    (case l__law_chosen => k_is)
    (case e__law_chosen => k_is)
    (case k__law_chosen => k_is)
    (case a__law_common => k_is)
    (case l__law_common => k_is)
    (case e__law_common => k_is)
    (case k__law_common => k_is)
    (case a__law_outside => k_is)
    (case l__law_outside => k_is)
    (case e__law_outside => k_is)
    (case k__law_outside => k_is)
    (case a_law => k_is)
    (case l_law => k_is)
    (case e_law => k_is)
    (case k_law => k_is)
    (case ac_Group => k_is)
    (case pg_Group => k_is)
    (case hd_Group => k_is)
    (case po_Group => k_is)
    (case sa_Group => k_is)
    (case mk_Group => k_is)
    (case kc_Group => k_is)
    (case na_Group_faults => k_is)
    (case na_Group_machines => k_is)
    (case na_Group_quorum => k_is)
    (case na_Group_blocking => k_is)
    (case a_Group____init__ => k_is)
    (case i_Group____init__ => k_is)
    (case l_Group____init__ => k_is)
    (case e_Group____init__ => k_is)
    (case k_Group____init__ => k_is)
    (case a_Group__members => k_is)
    (case i_Group__members => k_is)
    (case l_Group__members => k_is)
    (case e_Group__members => k_is)
    (case k_Group__members => k_is)
    (case a_Group__is_member => k_is)
    (case i_Group__is_member => k_is)
    (case l_Group__is_member => k_is)
    (case e_Group__is_member => k_is)
    (case k_Group__is_member => k_is)
    (case a_MOST_FAULTS => k_is)
    (case z_abs => k_is)
    (case z_bool => k_is)
    (case z_int => k_is)
    (case z_isinstance => k_is)
    (case z_len => k_is)
    (case z_list => k_is)
    (case z_range => k_is)

