--@fnd FORMS answer=holds_answer command=holds_request
import PyProof.Rows.All
import Wide.All
import OpenK.AllK
import Wide.FinOn
import HandS.ForMost
import HandS.Walk
import HandS.Flow
import HandS.Codes
import HandS.IsInst
import HandS.Conv
import HandS.StrMore
import PyProof.MeetsSeq2
import PyProof.DictTable
import HandS.Wide
import HandS.TupAny
import HandS.More
import HandS.Dict
import HandS.ForExc
import HandS.ExcIs
import HandS.ExcField
import HandS.DeepEq
import HandS.TupLe
import HandS.Steps
import HandS.ExcInit
import HandS.SortRule
import HandS.RaiseMore
import HandS.Zip
import HandS.DictSubView
import HandS.Deep
import HandS.Sort
import HandS.SetKeys
import HandS.Strs
import HandS.SetFor
import HandS.DictComp
import PySem.Challenge.RW_oathledger_k69_client_counts_answers
set_option Elab.async false
set_option linter.all false
set_option maxRecDepth 100000
set_option maxHeartbeats 4000000
namespace Law
open PySem PySem.Spec PyProof.Rows L2
open C8 (Cal Met Mak pe_c pe_mk pe_mt pe_mt0 pe_gc pss_cut tCut)
/-! ### a def of the top, by its name -/
structure DefOk (K : PySem.W.Frag) (mg : Str → Option Value) (x : Str) (st : Stmt) (ps : List Str) : Prop where
  ex : ∃ (f : Addr) (fd : FuncData), L2.Fun K x x st f fd ∧ mg x = some (.ref f) ∧ Binds K fd ps []
section
variable {P : Program} {w : World} {K : PySem.W.Frag} {mg : Str → Option Value} {base : Heap}
/-- a def's promise, by its body -/
theorem cal {x : Str} {st : Stmt} {N ps : List Str} {k : Nat} {sp : Sp} (D : DefOk K mg x st ps) (S : FnScope N ps (defScope st)) (len : ∀ vs H Q E, sp vs H Q E → vs.length = ps.length)
    (hbody : ∀ (f : Addr) (cdv : Value) (A : Around) (outer : List Env) (s : Shared) (H : Hp) (vs : List V) (Q : VK) (E : XK), Room k (A.deeper (envOfC x (defScope st) s.heap.objs.size f cdv)) → sp vs H Q E →
      ∃ t, PSs (cxOf L2.CX0 P w K mg base N x (defScope st) f cdv A outer s H E).nox (defBody st) t ∧ t { nx := fun _ H' => Q .non H', rt := Q } (start N vs) H) : Cal P w K mg base (k + 1) x sp [] := by
  obtain ⟨f, fd, F, hm, b⟩ := D.ex
  exact ⟨f, fd, ps, [], F.ok S len (fun cdv A outer s H vs Q E hr h => hbody f cdv A outer s H vs Q E hr h), hm, F.kp, b, .nil⟩
/-- a call without arguments -/
theorem pe_c0 {X : Cx} {k j : Nat} {x : Str} {sp : Sp} {dvs : List V} {p pos : Pos} (c : Cal X.prog X.w X.K X.mg X.base k x sp dvs) (hr : Room j X.A) (hk : k ≤ j) (hg : Gl X x)
    (hdb : (x == ("__debug__" : Str)) = false := by decide) : PE X (.Call (.Name x p) [] [] pos) (tCall sp dvs L2.E0 tNil) := by
  obtain ⟨f, fd, ps, ds, F, hm, kp, b, d⟩ := c.ex
  exact pe_call0 F (hr.mono hk) hg hm kp b d pass0 hdb
end
/-! ### small things -/
theorem same_upd {H : Hp} {p : Addr} {o : HO} (h : H p = none) : Same H (upd H p o) := fun b x e => by
  rw [upd_ne (ne_of_none e h)]
  exact e
theorem same_mut {H H' : Hp} {p : Addr} {o : HO} (s : Same H H') (h : H p = none) : Same H (upd H' p o) := fun b x e => by
  rw [upd_ne (ne_of_none e h)]
  exact s b x e
theorem sz1000 {n : Nat} (h : n ≤ 100000) : n ≤ sizeLine := Nat.le_trans h (by decide)
theorem sz1000' {n : Nat} (h : n < 100000) : n < sizeLine := Nat.lt_of_lt_of_le h (by decide)
theorem sz1000'' {n : Nat} (h : n ≤ 16777216) : n ≤ sizeLine := by rw [sizeLine_eq]; exact h
theorem sq {K : PySem.W.Frag} {H : Hp} {a : Addr} {xs : List V} (h : H a = some (.lst xs)) : SqL K H a xs := .inl (.inl h)
def spLaw (K : PySem.W.Frag) : Sp := fun vs H Q _ => ∃ (a : Addr) (ns : List Int), vs = [.ref a] ∧ SqL K H a (ns.map V.int) ∧ ns.length ≤ 63 ∧ ∀ H', Q (.bl true) H'
/-! ### the reading, step by step -/
local macro_rules | `(tactic| walk_at "sd") => `(tactic| first
  | omega
  | decide
  | assumption
  | (show _ ∨ _; exact Or.inl ⟨by omega, by omega⟩)
  | (show _ ∨ _; exact Or.inr ⟨by omega, by omega⟩)
  | (show _ ∧ _; exact ⟨by omega, by omega⟩)
  | (show _ ∧ _; exact ⟨by decide, by decide⟩)
  | exact sz1000 (by omega)
  | exact sz1000' (by omega))
local macro_rules | `(tactic| walk_at "sz") => `(tactic| first
  | exact sz1000 (Nat.le_of_ble_eq_true rfl)
  | exact sz1000 (by omega)
  | exact sz1000'' (by omega)
  | assumption)
/-- one step of a reading: a slot, an operator upon numbers, a call upon values -/
local macro_rules | `(tactic| walk_at "rd") => `(tactic| first
  | refine ⟨_, (rfl : (_ : List (Option V))[_]? = some (some _)), ?_⟩
  | refine ⟨_, _, (rfl : (_ : V) = _), (rfl : (_ : V) = _), (by walk_at "sd" : (_ : Prop)), ?_⟩
  | refine ⟨_, _, (rfl : (_ : V) = _), (rfl : (_ : V) = _), ?_⟩
  | refine ⟨_, (rfl : (_ : List V) = _), (by walk_at "sd" : (_ : Prop)), (by walk_at "sd" : (_ : Prop)), ?_⟩
  | refine ⟨_, (rfl : (_ : List V) = _), ?_⟩
  | refine ⟨_, (rfl : (_ : V) = _), ?_⟩
  | refine .inl ⟨_, (rfl : (_ : List V) = _), ?_⟩
  | refine ⟨⟨_, (rfl : (_ : V) = _)⟩, ?_⟩
  | refine ⟨(rfl : scal _ _ = true), ?_⟩
  | refine ⟨(rfl : V.non = V.non), ?_⟩
  | refine ⟨(by walk_at "sz" : (_ ≤ sizeLine)), ?_⟩)
local macro_rules | `(tactic| walk_at "rds") => `(tactic| repeat walk_at "rd")
theorem tyes {σ : L2.St} {H : Hp} {A B : Hp → Prop} (h : A H) : tYes σ H (fun b H3 => if b = true then A H3 else B H3) := by
  show (if true = true then A H else B H)
  rw [if_pos rfl]
  exact h
theorem sum_ones {ys : List Str} (h : ∀ y ∈ ys, y.length = 1) : (ys.map (fun x => x.length)).sum = ys.length := by
  induction ys with
  | nil => rfl
  | cons y r ih =>
    rw [List.map_cons, List.sum_cons, ih (fun z hz => h z (List.mem_cons_of_mem _ hz)), h y List.mem_cons_self, List.length_cons]
    omega
theorem chr_at {z : Str} {i : Int} (h0 : 0 ≤ i) (h1 : i < z.length) : ∃ c, atI z.cps.toList i = some c := by
  obtain ⟨j, rfl⟩ := Int.eq_ofNat_of_zero_le h0
  have hj : j < z.cps.toList.length := by
    rw [Array.length_toList]
    exact Int.ofNat_lt.mp h1
  exact ⟨z.cps.toList[j], atI_nat (List.getElem?_eq_getElem hj)⟩
/-- what an append to a tracked new list leaves -/
theorem lst_app {α : Type} {H : Hp} {D : Addr} {f : α → V} {ys : List α} {y : α} : upd H D (.lst (ys.map f ++ [f y])) D = some (.lst ((ys ++ [y]).map f)) := by
  rw [upd_same, List.map_append]
  rfl
theorem rg40 {n : Nat} (h : n ≤ 100000) : RgC 0 n 40 ((n + 39) / 40) := by
  have e : Builtin.Range.rangeSize 0 (n : Int) 40 = (((n + 39) / 40 : Nat) : Int) := by
    rw [rangeSize_pos (by decide) (by omega)]
    omega
  refine ⟨by decide, by decide, ?_, e⟩
  unfold Builtin.Range.small
  rw [e]
  unfold Builtin.Range.rangeFitsLong
  simp
  omega
theorem isi {K : PySem.W.Frag} {H : Hp} {x : V} {T1 T2 : String} {b : Bool} {Q : VK} (ty : TyX K H x (.type T1)) (e : kitB T1 T2 = some b) (q : Q (.bl b) H) : rIsi K [x, .ty T2] H Q :=
  ⟨x, .ty T2, _, _, b, rfl, .ty _, ty, kit_ty e, q⟩
theorem ifT {c : Bool} {A B : Prop} (hc : c = true) (h : A) : if c = true then A else B := by
  rw [if_pos hc]
  exact h
theorem ifF {c : Bool} {A B : Prop} (hc : c = false) (h : B) : if c = true then A else B := by
  rw [if_neg (by rw [hc]; decide)]
  exact h
local macro_rules | `(tactic| walk_at "isk") => `(tactic| first
  | exact .base (.int _) | exact .base (.str _) | exact .base (.bl _) | exact .base .non
  | exact .base (.lst (by assumption)) | exact .base (.tup (by assumption)) | exact .base (.dK (by assumption)))
/-- isinstance(x, T) with a built-in T; the object's fact stands in the context -/
local macro_rules | `(tactic| walk_at "isi") => `(tactic| first
  | refine ⟨_, .ty _, _, _, true, (rfl : (_ : List V) = _), .ty _, (by walk_at "isk"), kit_ty (by decide +kernel), ?_⟩
  | refine ⟨_, .ty _, _, _, false, (rfl : (_ : List V) = _), .ty _, (by walk_at "isk"), kit_ty (by decide +kernel), ?_⟩)
/-! ### classes of the top -/
structure MethOk (K : PySem.W.Frag) (C : Addr) (m qual : Str) (st : Stmt) (ps : List Str) : Prop where
  ex : ∃ (f : Addr) (fd : FuncData), Meth K C m f ∧ L2.Fun K m qual st f fd ∧ Binds K fd ps []
structure MakOk (K : PySem.W.Frag) (C : Addr) (qual : Str) (st : Stmt) (ps : List Str) : Prop where
  ex : ∃ (f : Addr) (fd : FuncData), Mk K C f ∧ L2.Fun K "__init__" qual st f fd ∧ Binds K fd ps []
section
variable {P : Program} {w : World} {K : PySem.W.Frag} {mg : Str → Option Value} {base : Heap}
theorem met {C : Addr} {m qual : Str} {st : Stmt} {N ps : List Str} {k : Nat} {sp : Sp} (c : Cls K C) (D : MethOk K C m qual st ps) (S : FnScope N ps (defScope st)) (len : ∀ vs H Q E, sp vs H Q E → vs.length = ps.length)
    (hbody : ∀ (f : Addr) (cdv : Value) (A : Around) (outer : List Env) (s : Shared) (H : Hp) (vs : List V) (Q : VK) (E : XK), Room k (A.deeper (envOfC qual (defScope st) s.heap.objs.size f cdv)) → sp vs H Q E →
      ∃ t, PSs (cxOf L2.CX0 P w K mg base N qual (defScope st) f cdv A outer s H E).nox (defBody st) t ∧ t { nx := fun _ H' => Q .non H', rt := Q } (start N vs) H) : Met P w K mg base (k + 1) C m sp [] := by
  obtain ⟨f, fd, M, F, b⟩ := D.ex
  exact ⟨f, fd, ps, [], c, M, F.ok S len (fun cdv A outer s H vs Q E hr h => hbody f cdv A outer s H vs Q E hr h), b, .nil⟩
theorem mak {C : Addr} {x qual : Str} {st : Stmt} {N ps : List Str} {k : Nat} {sp : Sp} (hm : mg x = some (.ref C)) (D : MakOk K C qual st ps) (S : FnScope N ps (defScope st)) (len : ∀ vs H Q E, sp vs H Q E → vs.length = ps.length)
    (hbody : ∀ (f : Addr) (cdv : Value) (A : Around) (outer : List Env) (s : Shared) (H : Hp) (vs : List V) (Q : VK) (E : XK), Room k (A.deeper (envOfC qual (defScope st) s.heap.objs.size f cdv)) → sp vs H Q E →
      ∃ t, PSs (cxOf L2.CX0 P w K mg base N qual (defScope st) f cdv A outer s H E).nox (defBody st) t ∧ t { nx := fun _ H' => Q .non H', rt := Q } (start N vs) H) : Mak P w K mg base (k + 1) x C sp [] := by
  obtain ⟨f, fd, M, F, b⟩ := D.ex
  exact ⟨f, fd, ps, [], M, F.ok S len (fun cdv A outer s H vs Q E hr h => hbody f cdv A outer s H vs Q E hr h), hm, b, .nil⟩
end
/-- a tuple of the top, in the written part -/
def KTup (K : PySem.W.Frag) (a : Addr) (xs : List V) : Prop := ∃ o its n, K.lookup a = some o ∧ o.cls = Value.type "tuple" ∧ o.data = Data.seq its n ∧ its.size ≤ sizeLine ∧ Vals xs its.toList
theorem pe_mk0 {X : Cx} {k j : Nat} {x : Str} {C : Addr} {sp : Sp} {dvs : List V} {p pos : Pos} (c : Mak X.prog X.w X.K X.mg X.base k x C sp dvs) (hr : Room j X.A) (hk : k + 1 ≤ j) (hg : Gl X x)
    (hdb : (x == ("__debug__" : Str)) = false := by decide) : PE X (.Call (.Name x p) [] [] pos) (tMake C sp dvs L2.E0 tNil) := by
  obtain ⟨f, fd, ps, ds, M, F, hm, b, d⟩ := c.ex
  exact pe_make0 M F (hr.mono hk) hg hm b d pass0 hdb
/-! ### rules whose written part is named K (a comprehension's context is another one) -/
section
variable {X : Cx} {K : PySem.W.Frag}
theorem kin (h : X.K = K := by rfl) : OpR X (compareOp .In) (rIn K false) := by subst h; exact op_in_seq
theorem knin (h : X.K = K := by rfl) : OpR X (compareOp .NotIn) (rIn K true) := by subst h; exact op_notIn_seq
theorem kixl (h : X.K = K := by rfl) : IxR X (rIxL K) := by subst h; exact ix_list
theorem kixt (h : X.K = K := by rfl) : IxR X (rIxT K) := by subst h; exact ix_tup
theorem ksll (h : X.K = K := by rfl) : SlR X (rSlL K) := by subst h; exact sl_list
theorem kisi (h : X.K = K := by rfl) : CallR X (.builtin "isinstance") (rIsi K) := by subst h; exact call_isi
theorem kfld {o : Expr} {f : Str} {pos : Pos} {ta : TE} (he : PE X o ta) (hb : attributeBase o f X.env (eval o X.env) = eval o X.env := by rfl) (h : X.K = K := by rfl) : PE X (.Attribute o f pos) (tFld K ta f) := by subst h; exact pe_fld he hb
def rLenK (K : PySem.W.Frag) : List V → Hp → VK → Prop := fun xs H Q => ∃ p ys, xs = [.ref p] ∧ (SqL K H p ys ∨ SqT K H p ys) ∧ Q (.int ys.length) H
theorem klen (h : X.K = K := by rfl) : CallR X (.builtin "len") (rLenK K) := by subst h; exact call_len_seq
end
theorem hu1 {k : Nat} {A : Around} (hr : Room k A) : A.units + 1 < cLine := by have := hr.units; omega
section
variable {X : Cx}
theorem kdin {d : Addr} (h : ∃ es n, KDict X.K X.w d es n) : OpR X (compareOp .In) (fun x y H Q => ∃ (z : Str) (r : Option Value), x = .str z ∧ y = .ref d ∧ PySem.W.nsIn X.K d z = some r ∧ Q (.bl r.isSome) H) := by
  obtain ⟨es, n, D⟩ := h
  exact op_in_kd D
theorem kdnin {d : Addr} (h : ∃ es n, KDict X.K X.w d es n) : OpR X (compareOp .NotIn) (fun x y H Q => ∃ (z : Str) (r : Option Value), x = .str z ∧ y = .ref d ∧ PySem.W.nsIn X.K d z = some r ∧ Q (.bl (!r.isSome)) H) := by
  obtain ⟨es, n, D⟩ := h
  exact op_notIn_kd D
end
theorem kgtup {X : Cx} {K : PySem.W.Frag} {es : List Expr} {k : Nat} {t : TGs} {n : Nat} {pos : Pos} (hc : X.calm = true) (h : PGs X es t)
    (hn : (assignEach es X.env).length = n := by rfl) (hst : (assignEach es X.env).findIdx? (·.1) = none := by rfl) (hK : X.K = K := by rfl) : PG X (.Tuple es k pos) (gTup K n t) := by subst hK; exact pg_tup hc h hn hst
theorem hu65 {A : Around} {k : Nat} (hr : Room k A) : A.units + 65 < cLine := by have := hr.un; omega
theorem keqD {X : Cx} {K : PySem.W.Frag} (hu : X.A.units + 64 < cLine) (h : X.K = K := by rfl) : OpR X (compareOp .Eq) (rEqD K) := by subst h; exact op_eqD hu
theorem kneD {X : Cx} {K : PySem.W.Frag} (hu : X.A.units + 64 < cLine) (h : X.K = K := by rfl) : OpR X (compareOp .NotEq) (rNeD K) := by subst h; exact op_neD hu

/-! ### defs that raise own exceptions -/
theorem kit_own {K : PySem.W.Frag} {B C : Addr} (h1 : PySem.W.subIn K (.ref C) (.type "BaseException") = some true) (h2 : PySem.W.typeIn K (.ref C) = some (.type "type")) (h3 : PySem.W.subIn K (.ref B) (.ref C) = some true) : PySem.W.kitOne K (.ref B) (.ref C) = some true := by
  have h0 : (PySem.W.clsIn K C).isSome = true := by
    have h1 : PySem.W.mroIn K C (.type "BaseException") = some true := h1
    unfold PySem.W.mroIn at h1
    cases e : PySem.W.clsIn K C with
    | some _ => rfl
    | none => rw [e] at h1; cases h1
  unfold PySem.W.kitOne
  split
  · rfl
  · show (if ((PySem.W.clsIn K C).isSome && PySem.W.typeIn K (.ref C) == some (.type "type")) = true then PySem.W.subIn K (.ref B) (.ref C) else none) = some true
    rw [h0, h2, h3]
    rfl
section
variable {X : Cx}
/-- C() of an own exception class without an __init__ of its own -/
theorem pmk_own0 {x : Str} {C : Addr} {bmB : List Value} {B newId initId : String} {p pos : Pos} (F : ExcBaseFacts B newId initId bmB) (q : PySem.W.excIn X.K C bmB newId = true) (gC : X.mg x = some (.ref C)) (kC : PySem.W.keepIn X.K (.ref C) = true) (r : Raises X (.ref C)) (hg : Gl X x)
    (hdb : (x == ("__debug__" : Str)) = false := by decide) : PMk X (.Call (.Name x p) [] [] pos) (fun _ H Q => Q (.ref C) none H) := by
  intro pins s σ H Q I h
  refine wpAny_Call_Name_kw (ld_glob I hg gC ?_ hdb)
  refine PySem.W.callWith_K0 I.kIn kC ?_
  show wpAny _ _ (call (.ref C) []) _ _ _
  obtain ⟨bm, N, nm, qn, bs, hdct, sn, sub, ab, col, dd, k0, k1, k2, k3, k5, mN, hC, hN, hni, T⟩ := exc_obj I.kIn q
  refine wpAny_call_exc_subT F T hC hN hni (fun h' e hm => ?_) (Nat.zero_le _)
  exact mk_of I hm r h (I.hok.gone hm.new)
end
/-- an own exception class over ValueError -/
structure ExOk (K : PySem.W.Frag) (mg : Str → Option Value) (x : Str) (C : Addr) : Prop where
  ex : PySem.W.excIn K C [.type "ValueError", .type "Exception", .type "BaseException", .type "object"] "ValueError.__new__" = true
  g : mg x = some (.ref C)
  kp : PySem.W.keepIn K (.ref C) = true
  bp : PySem.W.subIn K (.ref C) (.type "BaseException") = some true
  tp : PySem.W.typeIn K (.ref C) = some (.type "type")
  hd : PySem.W.hasDictIn K C = true
theorem ExOk.exm {K : PySem.W.Frag} {mg : Str → Option Value} {x : Str} {C : Addr} {cls : Value} {b : Bool} (e : ExOk K mg x C) (h : PySem.W.subIn K cls (.ref C) = some b) : PySem.W.exmOne K cls (.ref C) = some b := PySem.W.exm_ref e.bp e.hd e.tp h
theorem pmk_ok {X : Cx} {x : Str} {C : Addr} {p pos : Pos} (e : ExOk X.K X.mg x C) (hg : Gl X x) (hdb : (x == ("__debug__" : Str)) = false := by decide) : PMk X (.Call (.Name x p) [] [] pos) (fun _ H Q => Q (.ref C) none H) :=
  pmk_own0 PySem.F.excBase_ValueError e.ex e.g e.kp (raises_own e.bp e.tp) hg hdb
/-! the promises of such defs -/
structure CalX (P : Program) (w : World) (K : PySem.W.Frag) (mg : Str → Option Value) (base : Heap) (k : Nat) (x : Str) (sp : Sp) : Prop where
  ex : ∃ (f : Addr) (fd : FuncData) (ps : List Str), FnOk P w K mg base (L2.CX P w) k f fd ps sp ∧ mg x = some (.ref f) ∧ PySem.W.keepIn K (.ref f) = true ∧ Binds K fd ps []
structure MetX (P : Program) (w : World) (K : PySem.W.Frag) (mg : Str → Option Value) (base : Heap) (k : Nat) (C : Addr) (m : Str) (sp : Sp) : Prop where
  ex : ∃ (f : Addr) (fd : FuncData) (ps : List Str), Cls K C ∧ Meth K C m f ∧ FnOk P w K mg base (L2.CX P w) k f fd ps sp ∧ Binds K fd ps []
structure MakX (P : Program) (w : World) (K : PySem.W.Frag) (mg : Str → Option Value) (base : Heap) (k : Nat) (x : Str) (C : Addr) (sp : Sp) : Prop where
  ex : ∃ (f : Addr) (fd : FuncData) (ps : List Str), Mk K C f ∧ FnOk P w K mg base (L2.CX P w) k f fd ps sp ∧ mg x = some (.ref C) ∧ Binds K fd ps []
section
variable {P : Program} {w : World} {K : PySem.W.Frag} {mg : Str → Option Value} {base : Heap}
theorem calX {x : Str} {st : Stmt} {N ps : List Str} {k : Nat} {sp : Sp} (D : DefOk K mg x st ps) (S : FnScope N ps (defScope st)) (len : ∀ vs H Q E, sp vs H Q E → vs.length = ps.length)
    (hbody : ∀ (f : Addr) (cdv : Value) (A : Around) (outer : List Env) (s : Shared) (H : Hp) (vs : List V) (Q : VK) (E : XK), Room k (A.deeper (envOfC x (defScope st) s.heap.objs.size f cdv)) → sp vs H Q E →
      ∃ t, PSs (cxOf (L2.CX P w) P w K mg base N x (defScope st) f cdv A outer s H E) (defBody st) t ∧ t { nx := fun _ H' => Q .non H', rt := Q } (start N vs) H) : CalX P w K mg base (k + 1) x sp := by
  obtain ⟨f, fd, F, hm, b⟩ := D.ex
  exact ⟨f, fd, ps, F.okX S len (fun cdv A outer s H vs Q E hr h => hbody f cdv A outer s H vs Q E hr h), hm, F.kp, b⟩
theorem metX {C : Addr} {m qual : Str} {st : Stmt} {N ps : List Str} {k : Nat} {sp : Sp} (c : Cls K C) (D : MethOk K C m qual st ps) (S : FnScope N ps (defScope st)) (len : ∀ vs H Q E, sp vs H Q E → vs.length = ps.length)
    (hbody : ∀ (f : Addr) (cdv : Value) (A : Around) (outer : List Env) (s : Shared) (H : Hp) (vs : List V) (Q : VK) (E : XK), Room k (A.deeper (envOfC qual (defScope st) s.heap.objs.size f cdv)) → sp vs H Q E →
      ∃ t, PSs (cxOf (L2.CX P w) P w K mg base N qual (defScope st) f cdv A outer s H E) (defBody st) t ∧ t { nx := fun _ H' => Q .non H', rt := Q } (start N vs) H) : MetX P w K mg base (k + 1) C m sp := by
  obtain ⟨f, fd, M, F, b⟩ := D.ex
  exact ⟨f, fd, ps, c, M, F.okX S len (fun cdv A outer s H vs Q E hr h => hbody f cdv A outer s H vs Q E hr h), b⟩
theorem makX {C : Addr} {x qual : Str} {st : Stmt} {N ps : List Str} {k : Nat} {sp : Sp} (hm : mg x = some (.ref C)) (D : MakOk K C qual st ps) (S : FnScope N ps (defScope st)) (len : ∀ vs H Q E, sp vs H Q E → vs.length = ps.length)
    (hbody : ∀ (f : Addr) (cdv : Value) (A : Around) (outer : List Env) (s : Shared) (H : Hp) (vs : List V) (Q : VK) (E : XK), Room k (A.deeper (envOfC qual (defScope st) s.heap.objs.size f cdv)) → sp vs H Q E →
      ∃ t, PSs (cxOf (L2.CX P w) P w K mg base N qual (defScope st) f cdv A outer s H E) (defBody st) t ∧ t { nx := fun _ H' => Q .non H', rt := Q } (start N vs) H) : MakX P w K mg base (k + 1) x C sp := by
  obtain ⟨f, fd, M, F, b⟩ := D.ex
  exact ⟨f, fd, ps, M, F.okX S len (fun cdv A outer s H vs Q E hr h => hbody f cdv A outer s H vs Q E hr h), hm, b⟩
end
/-! their calls: E tells at the slots what is wished of an error -/
section
variable {X : Cx} {k j : Nat} {C : Addr} {x m : Str} {sp : Sp} {p pos apos : Pos} {e o : Expr} {es : List Expr} {ta : TE} {t : TA} {E : L2.St → XK}
theorem pe_cX (c : CalX X.prog X.w X.K X.mg X.base k x sp) (hr : Room j X.A) (hk : k ≤ j) (hg : Gl X x) (hx : ∀ σ, PassesAt (L2.CX X.prog X.w) X σ (E σ)) (ha : PA X (e :: es) t)
    (hdb : (x == ("__debug__" : Str)) = false := by decide) (he : starEach (e :: es) X.env = (false, eval e X.env) :: starEach es X.env := by rfl) (hpl : (backTo pos (starEach es X.env)).any (·.1) = false := by rfl) :
    PE X (.Call (.Name x p) (e :: es) [] pos) (tCallS sp E t) := by
  obtain ⟨f, fd, ps, F, hm, kp, b⟩ := c.ex
  exact pe_callS F (hr.mono hk) hg hm kp b hx ha hdb he hpl
/-- where nothing is raised -/
theorem pe_cXn (c : CalX X.prog X.w X.K X.mg X.base k x sp) (hr : Room j X.A) (hk : k ≤ j) (hg : Gl X x) (ha : PA X (e :: es) t)
    (hdb : (x == ("__debug__" : Str)) = false := by decide) (he : starEach (e :: es) X.env = (false, eval e X.env) :: starEach es X.env := by rfl) (hpl : (backTo pos (starEach es X.env)).any (·.1) = false := by rfl) :
    PE X (.Call (.Name x p) (e :: es) [] pos) (tCall sp [] L2.E0 t) := by
  obtain ⟨f, fd, ps, F, hm, kp, b⟩ := c.ex
  exact pe_call F (hr.mono hk) hg hm kp b .nil passL ha hdb he hpl
def tMethX (C : Addr) (m : Str) (sp : Sp) (E : L2.St → XK) (ta : TE) (t : TA) : TE := fun σ H Q => ta σ H fun x H1 => ∃ a dx fs, x = .ref a ∧ H1 a = some (.ins C dx fs) ∧ fs.lookup m = none ∧ t σ H1 fun vs H2 => sp (.ref a :: vs) H2 Q (E σ)
theorem pe_mtX {pl : Sem Bool} (c : MetX X.prog X.w X.K X.mg X.base k C m sp) (hr : Room j X.A) (hk : k ≤ j) (hx : ∀ σ, PassesAt (L2.CX X.prog X.w) X σ (E σ)) (he : PE X o ta) (ha : PA X (e :: es) t)
    (hst : starEach (e :: es) X.env = (false, eval e X.env) :: starEach es X.env := by rfl) (hpl : (backTo pos (starEach es X.env)).any (·.1) = false := by rfl)
    (ht : eval (.Call (.Attribute o m apos) (e :: es) [] pos) X.env = (do
      let ov ← eval o X.env
      standAt apos.atName
      let (f, first) ← holding [ov] (getMethod ov m pl)
      callWith pos f first (backTo pos (starEach (e :: es) X.env)) (backToKw pos (keywordEach [] X.env))) := by rfl) :
    PE X (.Call (.Attribute o m apos) (e :: es) [] pos) (tMethX C m sp E ta t) := by
  obtain ⟨f, fd, ps, hc, hm, F, b⟩ := c.ex
  refine ⟨fun pins s σ H Q I h => ?_⟩
  refine PySem.W.methodCall_KW (pl := pl) (thn (he.run pins s σ H _ I h) fun u s1 ⟨x, H1, I1, rx, a, dx, fs, ex, ea, l, q⟩ => ?_) ht
  subst ex
  obtain rfl : u = Value.ref a := rx
  refine getmeth_ok I1 ea hc hm l ?_
  refine PySem.W.callWith_K (first := [.ref a]) (h₀ := X.base) I.ok.mod.kin hm.kp (thn (ha.run pos pins s1 σ H1 _ I1 q) fun us s2 ⟨vs, H2, I2, r, q2⟩ => ⟨I2.kIn, ?_⟩) hst hpl
  exact run_fnS (us := .ref a :: us) (vs := .ref a :: vs) F (hr.mono hk) b (hx σ) I2 (.cons rfl r) q2
theorem pe_mtX0 {pl : Sem Bool} (c : MetX X.prog X.w X.K X.mg X.base k C m sp) (hr : Room j X.A) (hk : k ≤ j) (hx : ∀ σ, PassesAt (L2.CX X.prog X.w) X σ (E σ)) (he : PE X o ta)
    (ht : eval (.Call (.Attribute o m apos) [] [] pos) X.env = (do
      let ov ← eval o X.env
      standAt apos.atName
      let (f, first) ← holding [ov] (getMethod ov m pl)
      callWith pos f first (backTo pos (starEach [] X.env)) (backToKw pos (keywordEach [] X.env))) := by rfl) :
    PE X (.Call (.Attribute o m apos) [] [] pos) (tMethX C m sp E ta tNil) := by
  obtain ⟨f, fd, ps, hc, hm, F, b⟩ := c.ex
  refine ⟨fun pins s σ H Q I h => ?_⟩
  refine PySem.W.methodCall_KW (pl := pl) (thn (he.run pins s σ H _ I h) fun u s1 ⟨x, H1, I1, rx, a, dx, fs, ex, ea, l, q⟩ => ?_) ht
  subst ex
  obtain rfl : u = Value.ref a := rx
  refine getmeth_ok I1 ea hc hm l ?_
  exact PySem.W.callWith_K0 (first := [.ref a]) I1.kIn hm.kp (run_fnS (us := [.ref a]) (vs := [.ref a]) F (hr.mono hk) b (hx σ) I1 (.cons rfl .nil) q)
def tMakeX (C : Addr) (sp : Sp) (E : L2.St → XK) (t : TA) : TE := fun σ H Q => t σ H fun vs H1 => ∀ x dx, H1 x = none → H1 dx = none → dx ≠ x → sp (.ref x :: vs) (upd (upd H1 dx (.own x)) x (.ins C dx [])) (fun v H2 => v = .non ∧ Q (.ref x) H2) (E σ)
theorem run_makeX {CX : CXT} {f : Addr} {fd : FuncData} {ps : List Str} {pins : List (Addr × Obj)} {σ : L2.St} {H : Hp} {s : Shared} {Q : VK} {us : List Value} {vs : List V} {Eσ : XK} (M : Mk X.K C f) (F : FnOk X.prog X.w X.K X.mg X.base CX k f fd ps sp) (hr : Room (k + 1) X.A) (hb : Binds X.K fd ps [])
    (hx : PassesAt CX X σ Eσ) (I : Inv X pins σ H s) (r : Vals vs us)
    (h : ∀ x dx, H x = none → H dx = none → dx ≠ x → sp (.ref x :: vs) (upd (upd H dx (.own x)) x (.ins C dx [])) (fun v H2 => v = .non ∧ Q (.ref x) H2) Eσ) :
    wpAny (model X.prog X.w) X.A (call (.ref C) us) (EP X pins σ Q) X.xe s := by
  have hq := h (s.heap.objs.size + 1) s.heap.objs.size (I.hok.fresh (Nat.le_succ _)) (I.hok.fresh (Nat.le_refl _)) (Nat.ne_of_lt (Nat.lt_succ_self _))
  have I2 := Inv.made (C := C) I
  have r2 : Vals (V.ref (s.heap.objs.size + 1) :: vs) (Value.ref (s.heap.objs.size + 1) :: us) := .cons rfl r
  have hl : (Value.ref (s.heap.objs.size + 1) :: us ++ ([] : List Value)).length = ps.length := by
    have e := r2.length
    rw [F.len _ _ _ _ hq] at e
    rw [List.append_nil]
    exact e.symm
  have hb' := hb _ (Value.ref (s.heap.objs.size + 1) :: us) I2.kIn hl
  rw [List.append_nil] at hb'
  refine wpAny_call (make_map (f := f) I.kIn M.makes M.init (beq_iff_eq.mp M.fn) (codeAny_mono (F.run _ X.stack _ _ ⟨Value.ref (s.heap.objs.size + 1) :: us, []⟩ (Value.ref (s.heap.objs.size + 1) :: us) _ _ Eσ (hr.make C us [])
    (I2.env0.make C us []) hb' r2 hq) fun r s' hq' => ?_))
  cases r with
  | error e => exact hx pins _ _ e s' I2 hq'
  | ok fl =>
    cases fl with
    | ret u =>
      obtain ⟨v, H', I3, rv, ev, q3⟩ := I2.after hq'
      subst ev
      exact ⟨rv, ⟨V.ref (s.heap.objs.size + 1), H', I3, rfl, q3⟩⟩
    | next => exact False.elim hq'
    | brk => exact False.elim hq'
    | cont => exact False.elim hq'
theorem pe_mkX (c : MakX X.prog X.w X.K X.mg X.base k x C sp) (hr : Room j X.A) (hk : k + 1 ≤ j) (hg : Gl X x) (hx : ∀ σ, PassesAt (L2.CX X.prog X.w) X σ (E σ)) (ha : PA X (e :: es) t)
    (hdb : (x == ("__debug__" : Str)) = false := by decide) (he : starEach (e :: es) X.env = (false, eval e X.env) :: starEach es X.env := by rfl) (hpl : (backTo pos (starEach es X.env)).any (·.1) = false := by rfl) :
    PE X (.Call (.Name x p) (e :: es) [] pos) (tMakeX C sp E t) := by
  obtain ⟨f, fd, ps, M, F, hm, b⟩ := c.ex
  refine ⟨fun pins s σ H Q I h => ?_⟩
  refine wpAny_Call_Name_kw (ld_glob I hg hm ?_ hdb)
  refine PySem.W.callWith_K (h₀ := X.base) I.ok.mod.kin M.kp (thn (ha.run pos pins s σ H _ I h) fun us s1 ⟨vs, H1, I1, r, q⟩ => ⟨I1.kIn, ?_⟩) he hpl
  exact run_makeX M F (hr.mono hk) b (hx σ) I1 r q
/-- where nothing is let out: for the calls above in a def without errors -/
theorem no_pass : ∀ σ : L2.St, PassesAt (L2.CX X.prog X.w) X σ ((fun _ => L2.E0) σ) := fun σ pins H s e s' I c => passL pins σ H s e s' I c
end

/-! ### x.translate({37: None}) of an ASCII text: the sign with code 37 is left out -/
section
open PySem PySem.Builtin PySem.Builtin.Str
/-- what the table tells of a sign -/
def Tl37 {prog : Program} {w : World} (f : Key → Option Value) : Prop := ∀ c : Nat, f (Sum.inl (c : Int)) = if c = 37 then some Value.none else none
theorem mapOfK {prog : Program} {w : World} {h h' : Heap} {a : Addr} {f : Key → Option Value} (m : h.MapOf (mixKind prog w) a f) (k : ∀ b o, h.get? b = some o → h'.get? b = some o) : h'.MapOf (mixKind prog w) a f := by
  obtain ⟨o, es, ep, ho, r⟩ := m
  exact ⟨o, es, ep, k _ _ ho, r⟩
theorem tl37 {prog : Program} {w : World} {A : Around} {E : Value → Shared → Prop} {s : Shared} {d : Addr} {c : Nat} {f : Key → Option Value} {Q : Mapped → Shared → Prop} (hh : A.handled = none) (hd : (d == sysModules) = false) (hm : s.heap.MapOf (mixKind prog w) d f) (hk : Tl37 (prog := prog) (w := w) f)
    (h1 : c = 37 → ∀ h' k, (∀ b o, s.heap.get? b = some o → h'.get? b = some o) → Q .drop { s with heap := h', toks := k })
    (h2 : c ≠ 37 → ∀ h' k, (∀ b o, s.heap.get? b = some o → h'.get? b = some o) → Q .keep { s with heap := h', toks := k }) : wpAny (model prog w) A (tableLookup (.ref d) c) Q E s := by
  unfold tableLookup
  refine wpAny_bind (wpAny_attempt (wpAny_bind (wpAny_mkInt ?_)))
  have hf := hk c
  by_cases hc : c = 37
  · rw [if_pos hc] at hf
    refine wpAny_getItem_of (knd := mixKind prog w) (k := Sum.inl (c : Int)) (mixKind_int prog w _ _) hm hf ?_
    exact wpAny_pure (h1 hc s.heap _ fun _ _ e => e)
  · rw [if_neg hc] at hf
    refine wpAny_getItem_missing_of (knd := mixKind prog w) (k := Sum.inl (c : Int)) (mixKind_int prog w _ _) hd hh hm hf fun h' e hx => ?_
    show wpAny _ _ (do let b ← isInstance (.ref e) (.type "LookupError"); _) _ _ _
    obtain ⟨ob, t, ho, hc2, _⟩ := hx.there
    refine wpAny_bind (wpAny_isInstance (T := "KeyError") (b := true) ⟨ob, ho, hc2⟩ (by first | rfl | kernel_rfl) ?_)
    show wpAny _ _ (if true = true then (do rule "str.translate.not-in-table"; pure Mapped.keep) else _) _ _ _
    rw [if_pos rfl]
    exact wpAny_bind (wpAny_rule (wpAny_pure (h2 hc h' _ hx.keeps)))
theorem pieces37 : ∀ (l : List Nat) (acc : Array Nat), List.foldl (fun acc (p : Str) => acc ++ p.cps) acc (l.map fun c => (⟨#[c]⟩ : Str)) = acc ++ l.toArray
  | [], acc => by
    show acc = acc ++ #[]
    rw [Array.append_empty]
  | c :: l, acc => by
    rw [List.map_cons, List.foldl_cons, pieces37 l]
    apply Array.toList_inj.mp
    simp
theorem look_new {c c' : Nat} {a b : Option Nat} {known : List (Nat × Option Nat)} (h : List.lookup c' ((c, a) :: known) = some b) : (c' = c ∧ b = a) ∨ List.lookup c' known = some b := by
  rw [List.lookup_cons] at h
  by_cases e : c' = c
  · rw [e, beq_self_eq_true] at h
    exact Or.inl ⟨e, (Option.some.inj h).symm⟩
  · have e2 : (c' == c) = false := beq_eq_false_iff_ne.mpr e
    rw [e2] at h
    exact Or.inr h
def out37 (l : List Nat) : List Nat := l.filter (fun c => decide (c ≠ 37))
def an37 (c : Nat) : Option Nat := if c = 37 then none else some c
/-- what stands while the signs are walked -/
def Tr37 (x : List Nat) (s : Shared) (rest : List Nat) (st : List Str × Nat × Bool × List (Nat × Option Nat) × Bool) (s' : Shared) : Prop :=
  ∃ (past : List Nat) (pieces : List Str) (known : List (Nat × Option Nat)) (h' : Heap) (k : Nat), x = past ++ rest ∧ st = (pieces, (out37 past).length, true, known, false) ∧ pieces.reverse = (out37 past).map (fun c => (⟨#[c]⟩ : Str)) ∧
    (∀ c a, List.lookup c known = some a → a = an37 c) ∧ s' = { s with heap := h', toks := k } ∧ ∀ b o, s.heap.get? b = some o → h'.get? b = some o
theorem Tr37.keep {x : List Nat} {s : Shared} {rest past : List Nat} {c : Nat} {pieces : List Str} {known : List (Nat × Option Nat)} {h' : Heap} {k : Nat} (hc : c ≠ 37) (h1 : x = past ++ c :: rest)
    (h3 : pieces.reverse = (out37 past).map (fun c => (⟨#[c]⟩ : Str))) (h4 : ∀ c a, List.lookup c known = some a → a = an37 c) (h6 : ∀ b o, s.heap.get? b = some o → h'.get? b = some o) :
    Tr37 x s rest (⟨#[c]⟩ :: pieces, (out37 past).length + 1, true, known, false) { s with heap := h', toks := k } := by
  have e : out37 (past ++ [c]) = out37 past ++ [c] := by
    unfold out37
    rw [List.filter_append, List.filter_cons_of_pos (by simpa using hc), List.filter_nil]
  refine ⟨past ++ [c], ⟨#[c]⟩ :: pieces, known, h', k, ?_, ?_, ?_, h4, rfl, h6⟩
  · rw [h1, List.append_assoc] <;> rfl
  · rw [e, List.length_append] <;> rfl
  · rw [e, List.reverse_cons, h3, List.map_append] <;> rfl
theorem Tr37.drop {x : List Nat} {s : Shared} {rest past : List Nat} {c : Nat} {pieces : List Str} {known : List (Nat × Option Nat)} {h' : Heap} {k : Nat} (hc : c = 37) (h1 : x = past ++ c :: rest)
    (h3 : pieces.reverse = (out37 past).map (fun c => (⟨#[c]⟩ : Str))) (h4 : ∀ c a, List.lookup c known = some a → a = an37 c) (h6 : ∀ b o, s.heap.get? b = some o → h'.get? b = some o) :
    Tr37 x s rest (pieces, (out37 past).length, true, known, false) { s with heap := h', toks := k } := by
  have e : out37 (past ++ [c]) = out37 past := by
    unfold out37
    rw [List.filter_append, List.filter_cons_of_neg (by simpa using hc), List.filter_nil, List.append_nil]
  refine ⟨past ++ [c], pieces, known, h', k, ?_, ?_, ?_, h4, rfl, h6⟩
  · rw [h1, List.append_assoc] <;> rfl
  · rw [e]
  · rw [e]; exact h3
theorem meets_tr37 {prog : Program} {w : World} (x : List Nat) (t : Tok) (d : Addr) (hd : (d == sysModules) = false) (hz : x.length ≤ 16000000) (ha : ∀ c ∈ x, c < 128) : MeetsIn prog w («str.translate» ⟨[.str (SX.S x) t, .ref d], []⟩) (fun A R s =>
    A.handled = none ∧ (∃ f, s.heap.MapOf (mixKind prog w) d f ∧ Tl37 (prog := prog) (w := w) f) ∧ ∀ (v : Value) (h' : Heap) (k : Nat), (∀ b o, s.heap.get? b = some o → h'.get? b = some o) → (∃ t', v = .str (SX.S (out37 x)) t') → R (.ok (.ret v)) { s with heap := h', toks := k }) := by
  refine .of_wp fun A R s h => ?_
  obtain ⟨hh, ⟨f, hm, hk⟩, h⟩ := h
  have hh1 : A.in1.handled = none := hh
  show wpAny _ _ (if ((SX.S x).length == 0) = true then (do rule "str.translate.empty"; ret (.str (SX.S x) t)) else (do
    let st ← forIn (SX.S x).cps (([], 0, (SX.S x).cps.all fun y => decide (y < 128), [], false) : List Str × Nat × Bool × List (Nat × Option Nat) × Bool) _
    _)) _ _ s
  by_cases h0 : ((SX.S x).length == 0) = true
  · rw [if_pos h0]
    have hx : x = [] := by
      rw [beq_iff_eq, SX.S_len] at h0
      exact List.eq_nil_of_length_eq_zero h0
    subst hx
    exact wpAny_bind (wpAny_rule (wpAny_pure ⟨_, rfl, h _ s.heap s.toks (fun _ _ e => e) ⟨t, rfl⟩⟩))
  · rw [if_neg h0]
    have hfast : ((SX.S x).cps.all fun y => decide (y < 128)) = true := by
      rw [← Array.all_toList]
      show (x.toArray.toList.all _) = true
      rw [List.toList_toArray, List.all_eq_true]
      exact fun c hc => decide_eq_true (ha c hc)
    rw [hfast]
    refine wpAny_bind (MeetsSeq2.wpAny_forIn_array _ (Tr37 x s) _ (fun c rest st s' hI => ?turn) (fun st s' hI => ?fin) (SX.S x).cps ([], 0, true, [], false) ?h0)
    case h0 =>
      refine ⟨[], [], [], s.heap, s.toks, ?_, rfl, rfl, fun c a z => ?_, rfl, fun _ _ e => e⟩
      · show x = [] ++ x.toArray.toList
        rw [List.toList_toArray, List.nil_append]
      · rw [List.lookup_nil] at z
        cases z
    case turn =>
      obtain ⟨past, pieces, known, h', k, e1, e2, e3, e4, e5, e6⟩ := hI
      subst e2
      subst e5
      have hpl : (out37 past).length ≤ 16000000 := by
        have q := congrArg List.length e1
        rw [List.length_append] at q
        exact Nat.le_trans (List.length_filter_le _ _) (by omega)
      have hm' : ({ s with heap := h', toks := k } : Shared).heap.MapOf (mixKind prog w) d f := mapOfK hm e6
      show wpAny _ _ (if tooLong (out37 past).length = true then _ else (if true = true then _ else _)) _ _ _
      rw [show tooLong (out37 past).length = false from PyProof.Rows.short24 (by omega), if_neg Bool.false_ne_true]
      rw [if_pos rfl]
      cases hl : List.lookup c known with
      | some a =>
        have ha2 := e4 c a hl
        subst ha2
        refine wpAny_bind (wpAny_pure ?_)
        by_cases hc : c = 37
        · have e : an37 c = none := if_pos hc
          rw [e]
          exact wpAny_pure (Tr37.drop hc e1 e3 e4 e6)
        · have e : an37 c = some c := if_neg hc
          rw [e]
          exact wpAny_pure (Tr37.keep hc e1 e3 e4 e6)
      | none =>
        have new : ∀ b, b = an37 c → ∀ c' a, List.lookup c' ((c, b) :: known) = some a → a = an37 c' := fun b hb c' a z => by
          rcases look_new z with ⟨q1, q2⟩ | q
          · rw [q2, hb, q1]
          · exact e4 c' a q
        refine wpAny_bind (tl37 hh1 hd hm' hk (fun hw h2 k2 k3 => ?_) (fun hw h2 k2 k3 => ?_))
        · have e : an37 c = none := if_pos hw
          refine wpAny_bind (wpAny_pure ?_)
          refine wpAny_pure ?_
          exact Tr37.drop (known := (c, none) :: known) hw e1 e3 (new none e.symm) (fun b o z => k3 b o (e6 b o z))
        · have e : an37 c = some c := if_neg hw
          refine wpAny_bind (wpAny_pure ?_)
          refine wpAny_pure ?_
          exact Tr37.keep (known := (c, some c) :: known) hw e1 e3 (new (some c) e.symm) (fun b o z => k3 b o (e6 b o z))
    case fin =>
      obtain ⟨past, pieces, known, h', k, e1, e2, e3, e4, e5, e6⟩ := hI
      subst e2
      subst e5
      have ex : x = past := by rw [e1, List.append_nil]
      have hl : (out37 past).length ≤ 16000000 := by
        rw [← ex]
        exact Nat.le_trans (List.length_filter_le _ _) hz
      show wpAny _ _ (if tooLong (out37 past).length = true then _ else retStr { cps := List.foldl (fun acc (p : Str) => acc ++ p.cps) #[] pieces.reverse }) _ _ _
      rw [show tooLong (out37 past).length = false from PyProof.Rows.short24 (by omega), if_neg Bool.false_ne_true, e3, pieces37, ← ex]
      have ev : (⟨#[] ++ (out37 x).toArray⟩ : Str) = SX.S (out37 x) := by
        rw [Array.empty_append] <;> rfl
      rw [ev]
      exact wpAny_bind (wpAny_mkStr (wpAny_pure ⟨_, rfl, h _ h' _ e6 ⟨_, rfl⟩⟩) (by rw [SX.S_len, sizeLine_eq, ex]; omega))
def rTr37 : V → List V → Hp → VK → Prop := fun x xs H Q => ∃ (t : Str) (d : Addr), x = .str t ∧ xs = [.ref d] ∧ H d = some (.dK [(Sum.inl 37, .non)]) ∧ (∀ c ∈ t.cps.toList, c < 128) ∧ t.length ≤ 16000000 ∧ Q (.str (SX.S (out37 t.cps.toList))) H
theorem mt_tr37 {X : Cx} (hc : X.calm = true) : MtR X "str.translate" rTr37 := by
  intro pins s σ H x xs v us Q I rx rs h
  obtain ⟨a, d, rfl, rfl, hd, ha, h3, h⟩ := h
  obtain ⟨t, rfl⟩ := rx
  obtain ⟨_, low, vs, kv, dd⟩ := dk_of I.hok hd
  cases rs with
  | cons r1 rs =>
    cases rs
    cases r1
    have ea : SX.S a.cps.toList = a := SX.S_tl a
    have hm := dd.mapOf
    have tl : Tl37 (prog := X.prog) (w := X.w) (valueAt vs) := by
      cases kv with
      | cons p r =>
        cases r
        rename_i b
        obtain ⟨k1, v1⟩ := b
        obtain ⟨e1, e2⟩ := p
        have e1 : Sum.inl 37 = k1 := e1
        have e2 : v1 = Value.none := e2
        subst e1 e2
        intro c
        unfold valueAt
        by_cases hc : c = 37
        · subst hc
          rfl
        · rw [if_neg hc]
          have hne : ¬ ((Sum.inl 37 : Key) = Sum.inl (c : Int)) := fun z => hc (by have := Sum.inl.inj z; omega)
          simp [List.find?, hne]
    rw [← ea]
    refine call_meetsIn F.slot_str_translate (typeIs_str _ _ _) F.entry_str_translate (F.args_str_translate_2 _ _) (meets_tr37 a.cps.toList t d low (by rw [Array.length_toList]; exact h3) ha) ⟨I.ok.hd hc, ⟨_, hm, tl⟩, ?_⟩
    intro v h' k hk ⟨t', e⟩
    subst e
    exact ⟨.str _, H, I.kept (t' := k) hk, ⟨t', rfl⟩, h⟩
end

def topS (i : Nat) : Stmt := PySem.Challenge.pw_oathledger_k69_client_counts_answers.main.body.getD i (.Pass ⟨0, 0, 0, 0⟩)
abbrev s_is_integer : Stmt := topS 10
theorem sc_is_integer : FnScope ["value", "least", "greatest"] ["value", "least", "greatest"] (defScope s_is_integer) := ⟨rfl, rfl, rfl, by decide +kernel, rfl, by decide +kernel, by decide +kernel⟩
abbrev s_is_printable : Stmt := topS 11
theorem sc_is_printable : FnScope ["value"] ["value"] (defScope s_is_printable) := ⟨rfl, rfl, rfl, by decide +kernel, rfl, by decide +kernel, by decide +kernel⟩
abbrev s_is_short : Stmt := topS 12
theorem sc_is_short : FnScope ["value", "most"] ["value", "most"] (defScope s_is_short) := ⟨rfl, rfl, rfl, by decide +kernel, rfl, by decide +kernel, by decide +kernel⟩
abbrev s_is_number : Stmt := topS 15
theorem sc_is_number : FnScope ["value"] ["value"] (defScope s_is_number) := ⟨rfl, rfl, rfl, by decide +kernel, rfl, by decide +kernel, by decide +kernel⟩
abbrev s_holds_request : Stmt := topS 26
theorem sc_holds_request : FnScope ["parts"] ["parts"] (defScope s_holds_request) := ⟨rfl, rfl, rfl, by decide +kernel, rfl, by decide +kernel, by decide +kernel⟩
abbrev s_holds_answer : Stmt := topS 27
theorem sc_holds_answer : FnScope ["parts"] ["parts"] (defScope s_holds_answer) := ⟨rfl, rfl, rfl, by decide +kernel, rfl, by decide +kernel, by decide +kernel⟩
abbrev s_is_letter : Stmt := topS 29
theorem sc_is_letter : FnScope ["value", "holds"] ["value"] (defScope s_is_letter) := ⟨rfl, rfl, rfl, by decide +kernel, rfl, by decide +kernel, by decide +kernel⟩
abbrev s_Client____init__ : Stmt := inClass (topS 31) 0
theorem sc_Client____init__ : FnScope ["self", "group", "name"] ["self", "group", "name"] (defScope s_Client____init__) := ⟨rfl, rfl, rfl, by decide +kernel, rfl, by decide +kernel, by decide +kernel⟩
abbrev s_Client__submit : Stmt := inClass (topS 31) 1
theorem sc_Client__submit : FnScope ["self", "text"] ["self", "text"] (defScope s_Client__submit) := ⟨rfl, rfl, rfl, by decide +kernel, rfl, by decide +kernel, by decide +kernel⟩
abbrev s_Client__tick : Stmt := inClass (topS 31) 2
theorem sc_Client__tick : FnScope ["self", "pending", "number", "text", "machine"] ["self"] (defScope s_Client__tick) := ⟨rfl, rfl, rfl, by decide +kernel, rfl, by decide +kernel, by decide +kernel⟩
abbrev s_Client__receive : Stmt := inClass (topS 31) 3
theorem sc_Client__receive : FnScope ["self", "sender", "letter", "pending", "answer"] ["self", "sender", "letter"] (defScope s_Client__receive) := ⟨rfl, rfl, rfl, by decide +kernel, rfl, by decide +kernel, by decide +kernel⟩
abbrev s_Client__pending : Stmt := inClass (topS 31) 4
theorem sc_Client__pending : FnScope ["self", "done"] ["self"] (defScope s_Client__pending) := ⟨rfl, rfl, rfl, by decide +kernel, rfl, by decide +kernel, by decide +kernel⟩
abbrev s_Client__accepted : Stmt := inClass (topS 31) 5
theorem sc_Client__accepted : FnScope ["self"] ["self"] (defScope s_Client__accepted) := ⟨rfl, rfl, rfl, by decide +kernel, rfl, by decide +kernel, by decide +kernel⟩
abbrev s_Client__waiting : Stmt := inClass (topS 31) 6
theorem sc_Client__waiting : FnScope ["self"] ["self"] (defScope s_Client__waiting) := ⟨rfl, rfl, rfl, by decide +kernel, rfl, by decide +kernel, by decide +kernel⟩
abbrev s_Group____init__ : Stmt := inClass (topS 33) 0
theorem sc_Group____init__ : FnScope ["self", "faults"] ["self", "faults"] (defScope s_Group____init__) := ⟨rfl, rfl, rfl, by decide +kernel, rfl, by decide +kernel, by decide +kernel⟩
abbrev s_Group__members : Stmt := inClass (topS 33) 1
theorem sc_Group__members : FnScope ["self"] ["self"] (defScope s_Group__members) := ⟨rfl, rfl, rfl, by decide +kernel, rfl, by decide +kernel, by decide +kernel⟩
abbrev s_Group__is_member : Stmt := inClass (topS 33) 2
theorem sc_Group__is_member : FnScope ["self", "value"] ["self", "value"] (defScope s_Group__is_member) := ⟨rfl, rfl, rfl, by decide +kernel, rfl, by decide +kernel, by decide +kernel⟩
abbrev s__law_rich : Stmt := topS 35
theorem sc__law_rich : FnScope ["cell", "k", "mixed"] ["cell", "k"] (defScope s__law_rich) := ⟨rfl, rfl, rfl, by decide +kernel, rfl, by decide +kernel, by decide +kernel⟩
abbrev s__law_letters : Stmt := topS 36
theorem sc__law_letters : FnScope ["model", "machines", "number", "k"] ["model", "machines"] (defScope s__law_letters) := ⟨rfl, rfl, rfl, by decide +kernel, rfl, by decide +kernel, by decide +kernel⟩
abbrev s__law_receive : Stmt := topS 37
theorem sc__law_receive : FnScope ["model", "machines", "sender", "letter", "number", "count", "one"] ["model", "machines", "sender", "letter"] (defScope s__law_receive) := ⟨rfl, rfl, rfl, by decide +kernel, rfl, by decide +kernel, by decide +kernel⟩
abbrev s__law_call : Stmt := topS 38
theorem sc__law_call : FnScope ["client", "model", "machines", "rich", "choice", "rest", "text", "due", "number", "letter", "sender"] ["client", "model", "machines", "rich"] (defScope s__law_call) := ⟨rfl, rfl, rfl, by decide +kernel, rfl, by decide +kernel, by decide +kernel⟩
abbrev s__law_same : Stmt := topS 39
theorem sc__law_same : FnScope ["client", "model", "number", "pending", "accepted"] ["client", "model"] (defScope s__law_same) := ⟨rfl, rfl, rfl, by decide +kernel, rfl, by decide +kernel, by decide +kernel⟩
abbrev s_law : Stmt := topS 40
theorem sc_law : FnScope ["script", "faults", "machines", "client", "model", "k"] ["script"] (defScope s_law) := ⟨rfl, rfl, rfl, by decide +kernel, rfl, by decide +kernel, by decide +kernel⟩
structure Txt (K : PySem.W.Frag) (mg : Str → Option Value) (w : World) (C_Client : Addr) (C_Group : Addr) (C_BadGroup : Addr) (C_FORMS : Addr) : Prop where
  d_is_integer : DefOk K mg "is_integer" s_is_integer ["value", "least", "greatest"]
  d_is_printable : DefOk K mg "is_printable" s_is_printable ["value"]
  d_is_short : DefOk K mg "is_short" s_is_short ["value", "most"]
  d_is_number : DefOk K mg "is_number" s_is_number ["value"]
  d_holds_request : DefOk K mg "holds_request" s_holds_request ["parts"]
  d_holds_answer : DefOk K mg "holds_answer" s_holds_answer ["parts"]
  d_is_letter : DefOk K mg "is_letter" s_is_letter ["value"]
  d__law_rich : DefOk K mg "_law_rich" s__law_rich ["cell", "k"]
  d__law_letters : DefOk K mg "_law_letters" s__law_letters ["model", "machines"]
  d__law_receive : DefOk K mg "_law_receive" s__law_receive ["model", "machines", "sender", "letter"]
  d__law_call : DefOk K mg "_law_call" s__law_call ["client", "model", "machines", "rich"]
  d__law_same : DefOk K mg "_law_same" s__law_same ["client", "model"]
  d_law : DefOk K mg "law" s_law ["script"]
  cl_Client : Cls K C_Client
  g_Client : mg "Client" = some (.ref C_Client)
  na_Client__group : NoAttr K C_Client "_group"
  na_Client__name : NoAttr K C_Client "_name"
  na_Client__texts : NoAttr K C_Client "_texts"
  na_Client__accepted : NoAttr K C_Client "_accepted"
  na_Client__answers : NoAttr K C_Client "_answers"
  mk_Client : MakOk K C_Client "Client.__init__" s_Client____init__ ["self", "group", "name"]
  me_Client__submit : MethOk K C_Client "submit" "Client.submit" s_Client__submit ["self", "text"]
  me_Client__tick : MethOk K C_Client "tick" "Client.tick" s_Client__tick ["self"]
  me_Client__receive : MethOk K C_Client "receive" "Client.receive" s_Client__receive ["self", "sender", "letter"]
  me_Client__pending : MethOk K C_Client "pending" "Client.pending" s_Client__pending ["self"]
  me_Client__accepted : MethOk K C_Client "accepted" "Client.accepted" s_Client__accepted ["self"]
  me_Client__waiting : MethOk K C_Client "waiting" "Client.waiting" s_Client__waiting ["self"]
  cl_Group : Cls K C_Group
  g_Group : mg "Group" = some (.ref C_Group)
  na_Group_faults : NoAttr K C_Group "faults"
  na_Group_machines : NoAttr K C_Group "machines"
  na_Group_quorum : NoAttr K C_Group "quorum"
  na_Group_blocking : NoAttr K C_Group "blocking"
  mk_Group : MakOk K C_Group "Group.__init__" s_Group____init__ ["self", "faults"]
  me_Group__members : MethOk K C_Group "members" "Group.members" s_Group__members ["self"]
  me_Group__is_member : MethOk K C_Group "is_member" "Group.is_member" s_Group__is_member ["self", "value"]
  x_BadGroup : ExOk K mg "BadGroup" C_BadGroup
  g_FORMS : mg "FORMS" = some (.ref C_FORMS)
  kd_FORMS : ∃ es n, KDict K w C_FORMS es n
  kf_FORMS_answer : ∃ f, mg "holds_answer" = some (.ref f) ∧ KDct K w C_FORMS "answer" (.ref f)
  kf_FORMS_command : ∃ f, mg "holds_request" = some (.ref f) ∧ KDct K w C_FORMS "command" (.ref f)
  u_BadGroup_BadGroup : PySem.W.subIn K (.ref C_BadGroup) (.ref C_BadGroup) = some true
  c_MOST_ANSWER : ∃ u, mg "MOST_ANSWER" = some u ∧ RelV (.int 200) u
  c_MOST_FAULTS : ∃ u, mg "MOST_FAULTS" = some u ∧ RelV (.int 10) u
  c_MOST_NUMBER : ∃ u, mg "MOST_NUMBER" = some u ∧ RelV (.int 1000000000000) u
  c_MOST_TEXT : ∃ u, mg "MOST_TEXT" = some u ∧ RelV (.int 240) u
  z_bool : mg "bool" = none
  z_int : mg "int" = none
  z_isinstance : mg "isinstance" = none
  z_len : mg "len" = none
  z_list : mg "list" = none
  z_max : mg "max" = none
  z_range : mg "range" = none
  z_str : mg "str" = none
  z_tuple : mg "tuple" = none
set_option pp.maxSteps 150
/-! ### list(d.values()).count(x): rules -/
section
variable {X : Cx}
theorem mt_dvals : MtR X "dict.values" (fun x xs H Q => ∃ (a : Addr) (kvs : List (Key × V)), x = .ref a ∧ xs = [] ∧ H a = some (.dK kvs) ∧ ∀ p, H p = none → Q (.ref p) (upd H p (viewO "dict_values" p a))) := by
  intro pins s σ H x xs v us Q I rx rxs h
  obtain ⟨a, kvs, rfl, rfl, ha, q⟩ := h
  cases rx
  cases rxs
  obtain ⟨_, hsys, vs, rel, dof⟩ := dk_of I.hok ha
  obtain ⟨ep, dat⟩ := dof.dictAt
  have dat' := dat
  obtain ⟨ob, es, ho, ex, hdat, hko, hpr, hnd⟩ := dat'
  refine call_meetsIn F.slot_dict_values ⟨ob, ho, ex.1⟩ F.entry_dict_values (F.args_dict_values_1 _) (meets_dict_values (mixKind X.prog X.w) a hsys) ⟨⟨vs, dof⟩, ?_⟩
  exact ⟨.ref s.heap.objs.size, _, I.laid (t' := s.toks) (fun b o q => Heap.get?_push_of_some _ q) (Nat.le_refl _) (viewO_ok (Heap.get?_push_size _ rfl)), rfl, q _ (I.hok.fresh (Nat.le_refl _))⟩
theorem call_listVals (hcalm : X.calm = true) : CallR X (.type "list") (fun xs H Q => ∃ (p a : Addr) (kvs : List (Key × V)), xs = [.ref p] ∧ H p = some (viewO "dict_values" p a) ∧ H a = some (.dK kvs) ∧ ∀ l, H l = none → Q (.ref l) (upd H l (.lst (kvs.map (·.2))))) := by
  intro pins s σ H xs us Q I r q
  obtain ⟨p, a, kvs, ex, hp, hd, q⟩ := q
  subst ex
  obtain ⟨u, eu, rx⟩ := vals1 r
  subst eu
  cases rx
  obtain ⟨z, lo, vs, rel, dd⟩ := dk_of I.hok hd
  obtain ⟨ep, hat⟩ := dd.dictAt
  have hv : s.heap.get? p = some (DSub.viewOb "dict_values" a) := (show ObjOk X.prog X.w H s.heap p (viewO "dict_values" p a) from I.hok p _ hp).1
  refine PySem.W.kdl_call (PySem.W.kdl_values (knd := mixKind X.prog X.w) (kvs := vs) (ep := ep)) (I.ok.hd hcalm) ⟨⟨_, hv, rfl, rfl⟩, hat⟩ (by rw [← rel.length]; exact z) fun h' tk acc c' hk hD hacc => ?_
  have hvv : Vals (kvs.map (·.2)) acc.toList := vals_of_at (by have e1 := hacc.1; have e2 := rel.length; rw [List.length_map, Array.length_toList]; exact e2.trans e1.symm) fun j x u hx hu => by
    obtain ⟨k, hk⟩ := hacc.2 j u (by rw [← Array.getElem?_toList]; exact hu)
    obtain ⟨y, h1, h2⟩ := KV.at' rel hk
    rw [List.getElem?_map, h1] at hx
    cases hx
    exact h2
  exact ⟨.ref s.heap.objs.size, upd H s.heap.objs.size (.lst (kvs.map (·.2))), I.laid (t' := tk) hk (Nat.le_refl _)
    (show ObjOk X.prog X.w _ _ _ (.lst (kvs.map (·.2))) from ⟨by rw [List.length_map]; exact z, acc.toList, c', hvv, by rw [Array.toArray_toList]; exact hD⟩), rfl, q _ (I.hok.fresh (Nat.le_refl _))⟩
def rCountD (K : PySem.W.Frag) : V → List V → Hp → VK → Prop := fun x xs H Q => ∃ (a : Addr) (y : V) (d : PyData) (ds : List PyData), x = V.ref a ∧ xs = [y] ∧ Dp K H (V.ref a) (.list ds) ∧ Dp K H y d ∧
  SeqAt.shaped (.list ds) = true ∧ SeqAt.shaped d = true ∧ Q (.int ((ds.countP fun z => PyData.eqv z d : Nat) : Int)) H
theorem mt_lcountD (hu : X.A.units + 65 < cLine) : MtR X "list.count" (rCountD X.K) := by
  intro pins s σ H x xs v us Q I rx rxs h
  obtain ⟨a, y, d, ds, rfl, rfl, hl, hy, sl, sd, q⟩ := h
  cases rx
  cases rxs with
  | cons ry rt =>
    rename_i uy ut
    cases rt
    obtain ⟨bs, r1⟩ := Dp.reads I d y uy hy ry
    have hxs : PyData.canLayAll0 ds = true := SeqAt.canLay_of_shaped sl
    have hroom : X.A.units + 1 + min (PyData.depthAll ds) d.depth < cLine := room_in_shaped sd hu
    cases hl with
    | lst hs ha =>
      obtain ⟨its, rv, ⟨⟨cls, dd, data, sls⟩, n, ho, hc, hdn, hdt⟩, hlen⟩ := I.list hs
      simp only at hc hdt
      subst hc hdt
      obtain ⟨as, h4⟩ := Dp.readsAll I ds _ its ha rv
      have hmap : its.map (SeqAt.readOf s.heap) = ds := SeqAt.readsAll_map ds its as hxs h4
      refine call_meets PySem.F.slot_list_count ⟨_, ho, rfl⟩ PySem.F.entry_list_count (PySem.F.args_list_count_2 _ _)
        (SeqAt.list_countAt a its.toArray n dd sls uy (fun u => PyData.eqv (SeqAt.readOf s.heap u) d)) ⟨ho, SeqAt.items_eqAt (vs := its.toArray) (show ReadsAll s.heap its.toArray.toList ds as from h4) r1 hxs (SeqAt.canLay_of_shaped sd) hroom, ?_⟩
      have ec : its.toArray.toList.countP (fun u => PyData.eqv (SeqAt.readOf s.heap u) d) = ds.countP fun z => PyData.eqv z d := by
        rw [← hmap, List.countP_map]; rfl
      refine ⟨.int ((ds.countP fun z => PyData.eqv z d : Nat) : Int), H, I.tok _, ⟨s.toks, ?_⟩, q⟩
      show Value.int ((its.toArray.toList.countP (fun u => PyData.eqv (SeqAt.readOf s.heap u) d) : Nat) : Int) s.toks = Value.int _ s.toks
      rw [ec]
end

/-! ### the draws of a script -/
def Dr (H : Hp) (D A : Addr) : Prop := D ≠ A ∧ ∃ (ds : List Int) (n : Nat), H D = some (.lst (ds.map V.int)) ∧ H A = some (.lst [.int n]) ∧ (∀ d ∈ ds, 0 ≤ d ∧ d < 1000) ∧ ds.length ≤ 2520
/-- all that was tracked but A is as it was -/
def Mod (A : Addr) (H H' : Hp) : Prop := ∀ b o, b ≠ A → H b = some o → H' b = some o
theorem Mod.refl {A : Addr} {H : Hp} : Mod A H H := fun _ _ _ h => h
theorem Mod.trans {A : Addr} {H H1 H2 : Hp} (a : Mod A H H1) (b : Mod A H1 H2) : Mod A H H2 := fun c o n h => b c o n (a c o n h)
theorem Same.mod {A : Addr} {H H' : Hp} (s : Same H H') : Mod A H H' := fun b o _ h => s b o h
theorem Mod.new {A p : Addr} {o : HO} {H H' : Hp} (s : Mod A H H') (h : H' p = none) : Mod A H (upd H' p o) := fun b u n e => by
  rw [upd_ne (ne_of_none (s b u n e) h)]
  exact s b u n e
theorem Dr.new {D A p : Addr} {o : HO} {H : Hp} (d : Dr H D A) (h : H p = none) : Dr (upd H p o) D A := by
  obtain ⟨ne, ds, n, h1, h2, h3⟩ := d
  exact ⟨ne, ds, n, by rw [upd_ne (ne_of_none h1 h)]; exact h1, by rw [upd_ne (ne_of_none h2 h)]; exact h2, h3⟩
theorem Dr.same {D A : Addr} {H H' : Hp} (d : Dr H D A) (s : Same H H') : Dr H' D A := by
  obtain ⟨ne, ds, n, h1, h2, h3⟩ := d
  exact ⟨ne, ds, n, s _ _ h1, s _ _ h2, h3⟩
/-- an object that is neither D nor A is changed -/
theorem Dr.put {D A p : Addr} {o : HO} {H : Hp} (d : Dr H D A) (h1 : p ≠ D) (h2 : p ≠ A) : Dr (upd H p o) D A := by
  obtain ⟨ne, ds, n, e1, e2, h3⟩ := d
  exact ⟨ne, ds, n, by rw [upd_ne h1.symm]; exact e1, by rw [upd_ne h2.symm]; exact e2, h3⟩
theorem Dr.freshA {D A p : Addr} {H : Hp} (d : Dr H D A) (h : H p = none) : p ≠ A := by
  obtain ⟨_, _, _, _, e, _⟩ := d
  exact (ne_of_none e h).symm
theorem Dr.freshD {D A p : Addr} {H : Hp} (d : Dr H D A) (h : H p = none) : p ≠ D := by
  obtain ⟨_, _, _, e, _⟩ := d
  exact (ne_of_none e h).symm
theorem Mod.free {A p : Addr} {H H' : Hp} (s : Mod A H H') (d : ∃ o, H' A = some o) (h : H' p = none) : H p = none := by
  cases e : H p with
  | none => rfl
  | some o =>
    by_cases hp : p = A
    · subst hp
      obtain ⟨o', e'⟩ := d
      rw [e'] at h; cases h
    · rw [s p o hp e] at h; cases h
theorem Dr.A_in {D A : Addr} {H : Hp} (d : Dr H D A) : ∃ o, H A = some o := by
  obtain ⟨_, _, _, _, e, _⟩ := d
  exact ⟨_, e⟩
theorem rng_app {ds : List Int} {x : Int} (h : ∀ d ∈ ds, 0 ≤ d ∧ d < 1000) (h0 : 0 ≤ x) (h1 : x < 1000) : ∀ d ∈ ds ++ [x], 0 ≤ d ∧ d < 1000 := fun d hd => by
  rcases List.mem_append.mp hd with hd | hd
  · exact h d hd
  · rw [List.mem_singleton.mp hd]; exact ⟨h0, h1⟩

/-! ### drawn numbers and strings -/
def prC (c : Nat) : Bool := decide (32 ≤ c) && decide (c ≤ 126) && decide (c ≠ 37)
def isPr (z : Str) : Bool := z.cps.toList.all prC
theorem app_tl (a b : Str) : (a ++ b).cps.toList = a.cps.toList ++ b.cps.toList := by
  show (a.cps ++ b.cps).toList = _
  rw [Array.toList_append]
theorem len_tl (z : Str) : z.cps.toList.length = z.length := Array.length_toList
theorem isPr_app (a b : Str) : isPr (a ++ b) = (isPr a && isPr b) := by
  unfold isPr
  rw [app_tl, List.all_append]

/-! ### values as data: what stands at them does not change -/
def TupAt (K : PySem.W.Frag) (H : Hp) (a : Addr) (xs : List V) : Prop := H a = some (.tup xs) ∨ KTup K a xs
section
variable {K : PySem.W.Frag}
theorem TupAt.sq {H : Hp} {a : Addr} {xs : List V} (h : TupAt K H a xs) : SqT K H a xs := h.elim SqT.of .inr
theorem TupAt.ty {H : Hp} {a : Addr} {xs : List V} (h : TupAt K H a xs) : TyX K H (.ref a) (.type "tuple") := h.elim (fun h => .base (.tup h)) (fun ⟨_, _, _, h1, h2, _⟩ => .kTuple h1 h2)
theorem TupAt.same {H H' : Hp} {a : Addr} {xs : List V} (h : TupAt K H a xs) (s : Same H H') : TupAt K H' a xs := h.imp (s _ _) id
/-- none of those at A (none: no matter) -/
def NeA (A : Option Addr) (a : Addr) : Prop := match A with | some b => a ≠ b | none => True
mutual
/-- v is the data d; the lists in it are none of those at A -/
inductive Dt (K : PySem.W.Frag) (H : Hp) (A : Option Addr) : V → PyData → Prop
  | non : Dt K H A .non .none
  | bl (b : Bool) : Dt K H A (.bl b) (.bool b)
  | int (i : Int) : Dt K H A (.int i) (.int i)
  | str (z : Str) (h : z.length ≤ 1000000) : Dt K H A (.str z) (.str z)
  | lst {a : Addr} {xs : List V} {ds : List PyData} : NeA A a → H a = some (.lst xs) → DtAll K H A xs ds → Dt K H A (.ref a) (.list ds)
  | tup {a : Addr} {xs : List V} {ds : List PyData} : TupAt K H a xs → DtAll K H A xs ds → Dt K H A (.ref a) (.tuple ds)
inductive DtAll (K : PySem.W.Frag) (H : Hp) (A : Option Addr) : List V → List PyData → Prop
  | nil : DtAll K H A [] []
  | cons {v : V} {vs : List V} {d : PyData} {ds : List PyData} : Dt K H A v d → DtAll K H A vs ds → DtAll K H A (v :: vs) (d :: ds)
end
theorem DtAll.length {H : Hp} {A : Option Addr} : ∀ {xs : List V} {ds : List PyData}, DtAll K H A xs ds → xs.length = ds.length
  | _, _, .nil => rfl
  | _, _, .cons _ r => by rw [List.length_cons, List.length_cons, r.length]
theorem DtAll.get {H : Hp} {A : Option Addr} : ∀ {xs : List V} {ds : List PyData} {i : Nat} {x : V}, DtAll K H A xs ds → xs[i]? = some x → ∃ d, ds[i]? = some d ∧ Dt K H A x d
  | _, _, _, _, .nil, e => by simp at e
  | _, _, 0, x, .cons h _, e => by simp at e; subst e; exact ⟨_, rfl, h⟩
  | _, _, i + 1, x, .cons _ r, e => by
    obtain ⟨d, h1, h2⟩ := r.get (i := i) (x := x) (by simpa using e)
    exact ⟨d, by simpa using h1, h2⟩
theorem DtAll.getD {H : Hp} {A : Option Addr} {xs : List V} {ds : List PyData} {i : Nat} {d : PyData} (h : DtAll K H A xs ds) (e : ds[i]? = some d) : ∃ x, xs[i]? = some x ∧ Dt K H A x d := by
  have hi : i < ds.length := (List.getElem?_eq_some_iff.mp e).1
  have hi' : i < xs.length := by rw [h.length]; exact hi
  obtain ⟨d', h1, h2⟩ := h.get (List.getElem?_eq_getElem hi')
  rw [e] at h1
  cases h1
  exact ⟨_, List.getElem?_eq_getElem hi', h2⟩
mutual
theorem Dt.mod {H H' : Hp} {A D : Addr} (s : Mod A H H') (dr : Dr H D A) : ∀ (d : PyData) (v : V), Dt K H (some A) v d → Dt K H' (some A) v d
  | .none, _, h => by cases h; exact .non
  | .bool b, _, h => by cases h; exact .bl b
  | .int i, _, h => by cases h; exact .int i
  | .str z, _, h => by cases h with | str _ hz => exact .str z hz
  | .list ds, _, h => by cases h with | lst hn ha hd => exact .lst hn (s _ _ hn ha) (DtAll.mod s dr ds _ hd)
  | .tuple ds, _, h => by
    cases h with
    | tup ha hd =>
      obtain ⟨_, _, _, _, e, _⟩ := id dr
      exact .tup (ha.imp (fun ha => s _ _ (ne_of ha e (by intro z; cases z)) ha) id) (DtAll.mod s dr ds _ hd)
  | .dict _, _, h => by cases h
theorem DtAll.mod {H H' : Hp} {A D : Addr} (s : Mod A H H') (dr : Dr H D A) : ∀ (ds : List PyData) (xs : List V), DtAll K H (some A) xs ds → DtAll K H' (some A) xs ds
  | [], _, h => by cases h; exact .nil
  | d :: ds, _, h => by cases h with | cons h1 h2 => exact .cons (Dt.mod s dr d _ h1) (DtAll.mod s dr ds _ h2)
end
mutual
theorem Dt.same {H H' : Hp} {A : Option Addr} (s : Same H H') : ∀ (d : PyData) (v : V), Dt K H A v d → Dt K H' A v d
  | .none, _, h => by cases h; exact .non
  | .bool b, _, h => by cases h; exact .bl b
  | .int i, _, h => by cases h; exact .int i
  | .str z, _, h => by cases h with | str _ hz => exact .str z hz
  | .list ds, _, h => by cases h with | lst hn ha hd => exact .lst hn (s _ _ ha) (DtAll.same s ds _ hd)
  | .tuple ds, _, h => by cases h with | tup ha hd => exact .tup (ha.same s) (DtAll.same s ds _ hd)
  | .dict _, _, h => by cases h
theorem DtAll.same {H H' : Hp} {A : Option Addr} (s : Same H H') : ∀ (ds : List PyData) (xs : List V), DtAll K H A xs ds → DtAll K H' A xs ds
  | [], _, h => by cases h; exact .nil
  | d :: ds, _, h => by cases h with | cons h1 h2 => exact .cons (Dt.same s d _ h1) (DtAll.same s ds _ h2)
end
mutual
/-- data for a comparison -/
theorem Dt.dp {H : Hp} {A : Option Addr} : ∀ (d : PyData) (v : V), Dt K H A v d → Dp K H v d
  | .none, _, h => by cases h; exact .non
  | .bool b, _, h => by cases h; exact .bl b
  | .int i, _, h => by cases h; exact .int i
  | .str z, _, h => by cases h; exact .str z
  | .list ds, _, h => by cases h with | lst hn ha hd => exact .lst (SqL.of ha) (DtAll.dp ds _ hd)
  | .tuple ds, _, h => by cases h with | tup ha hd => exact .tup ha.sq (DtAll.dp ds _ hd)
  | .dict _, _, h => by cases h
theorem DtAll.dp {H : Hp} {A : Option Addr} : ∀ (ds : List PyData) (xs : List V), DtAll K H A xs ds → DpAll K H xs ds
  | [], _, h => by cases h; exact .nil
  | d :: ds, _, h => by cases h with | cons h1 h2 => exact .cons (Dt.dp d _ h1) (DtAll.dp ds _ h2)
end
theorem Dt.on {H H' : Hp} {A : Option Addr} {v : V} {d : PyData} (h : Dt K H A v d) (s : Same H H') : Dt K H' A v d := Dt.same s d v h
theorem DtAll.on {H H' : Hp} {A : Option Addr} {xs : List V} {ds : List PyData} (h : DtAll K H A xs ds) (s : Same H H') : DtAll K H' A xs ds := DtAll.same s ds xs h
theorem Dt.by {H H' : Hp} {A D : Addr} {v : V} {d : PyData} (h : Dt K H (some A) v d) (s : Mod A H H') (dr : Dr H D A) : Dt K H' (some A) v d := Dt.mod s dr d v h
theorem DtAll.by {H H' : Hp} {A D : Addr} {xs : List V} {ds : List PyData} (h : DtAll K H (some A) xs ds) (s : Mod A H H') (dr : Dr H D A) : DtAll K H' (some A) xs ds := DtAll.mod s dr ds xs h
theorem Dt.two {H : Hp} {A : Option Addr} {v : V} {d : PyData} (h : Dt K H A v d) : (∃ a xs ds, v = .ref a ∧ d = .tuple ds ∧ TupAt K H a xs ∧ DtAll K H A xs ds) ∨ (∃ T, TyX K H v (.type T) ∧ kitB T "tuple" = some false ∧ ∀ ds, d ≠ .tuple ds) := by
  cases h with
  | tup ha hx => exact .inl ⟨_, _, _, rfl, rfl, ha, hx⟩
  | str z hz => exact .inr ⟨_, .base (.str z), by decide +kernel, fun _ z => nomatch z⟩
  | int i => exact .inr ⟨_, .base (.int i), by decide +kernel, fun _ z => nomatch z⟩
  | non => exact .inr ⟨_, .base .non, by decide +kernel, fun _ z => nomatch z⟩
  | bl b => exact .inr ⟨_, .base (.bl b), by decide +kernel, fun _ z => nomatch z⟩
  | lst _ ha _ => exact .inr ⟨_, .base (.lst ha), by decide +kernel, fun _ z => nomatch z⟩
/-- the kind of a value -/
def dTy : PyData → String
  | .none => "NoneType" | .bool _ => "bool" | .int _ => "int" | .str _ => "str" | .list _ => "list" | .tuple _ => "tuple" | .dict _ => "dict"
theorem Dt.ty {H : Hp} {A : Option Addr} {v : V} {d : PyData} (h : Dt K H A v d) : TyX K H v (.type (dTy d)) := by
  cases h with
  | non => exact .base .non
  | bl b => exact .base (.bl b)
  | int i => exact .base (.int i)
  | str z _ => exact .base (.str z)
  | lst _ ha _ => exact .base (.lst ha)
  | tup ha _ => exact ha.ty
/-! the predicates of the program, upon data -/
def dInt (lo hi : Int) : PyData → Bool
  | .int i => decide (lo ≤ i ∧ i ≤ hi)
  | _ => false
def dShort (m : Int) : PyData → Bool
  | .str z => isPr z && decide ((z.length : Int) ≤ m)
  | _ => false
def dCmd : PyData → Bool
  | .tuple [c, n, t] => dInt (-100) (-1) c && dInt 1 1000000000000 n && dShort 240 t
  | _ => false
def dClient : PyData → Int
  | .tuple (.int c :: _) => c
  | _ => 0
def dAfter : Option Int → PyData → Bool
  | some k, d => decide (k < dClient d)
  | none, _ => true
def befV : Option Int → V
  | some k => .int k
  | none => .non
def dCmdsFrom : Option Int → List PyData → Bool
  | _, [] => true
  | b, d :: r => dCmd d && dAfter b d && dCmdsFrom (some (dClient d)) r
theorem dCmdsFrom_cons (b : Option Int) (d : PyData) (r : List PyData) : dCmdsFrom b (d :: r) = (dCmd d && dAfter b d && dCmdsFrom (some (dClient d)) r) := by cases b <;> rfl
theorem dCmdsFrom_nil (b : Option Int) : dCmdsFrom b [] = true := by cases b <;> rfl
def dCmds : PyData → Bool
  | .tuple ds => dCmdsFrom none ds
  | _ => false
def dHeight (parent : Int) (h : PyData) : Bool := if parent = 0 then dInt 1 1 h else dInt 2 (parent + 1) h
def dBlock4 (e p h cs : PyData) : Bool := match e, p with
  | .int e, .int p => dInt 1 1000000000000 (.int e) && dInt 0 (e - 1) (.int p) && dHeight p h && dCmds cs
  | _, _ => false
def dBlock : PyData → Bool
  | .tuple [e, p, h, cs] => dBlock4 e p h cs
  | _ => false
def dEmpty : PyData → Bool
  | .tuple [] => true
  | _ => false
def dGen : PyData → Bool
  | .tuple [e, p, h, cs] => dInt 0 0 e && dInt 0 0 p && dInt 0 0 h && dEmpty cs
  | _ => false
theorem DtAll.four {H : Hp} {A : Option Addr} {xs : List V} {ds : List PyData} (h : DtAll K H A xs ds) (hl : xs.length = 4) :
    ∃ x1 x2 x3 x4 d1 d2 d3 d4, xs = [x1, x2, x3, x4] ∧ ds = [d1, d2, d3, d4] ∧ Dt K H A x1 d1 ∧ Dt K H A x2 d2 ∧ Dt K H A x3 d3 ∧ Dt K H A x4 d4 := by
  match xs, ds, h with
  | [_, _, _, _], _, .cons h1 (.cons h2 (.cons h3 (.cons h4 .nil))) => exact ⟨_, _, _, _, _, _, _, _, rfl, rfl, h1, h2, h3, h4⟩
theorem dBlock4_e1 {e p h cs : PyData} (z : dInt 1 1000000000000 e = false) : dBlock4 e p h cs = false := by
  unfold dBlock4
  split
  · rw [z]; rfl
  · rfl
theorem dBlock4_e2 {e : Int} {p h cs : PyData} (z : dInt 0 (e - 1) p = false) : dBlock4 (.int e) p h cs = false := by
  unfold dBlock4
  split
  · rename_i h1
    cases h1
    rw [z, Bool.and_false]; rfl
  · rfl
/-- a predicate of one value, kept by growing heaps -/
def spPred (K : PySem.W.Frag) (A : Option Addr) (f : PyData → Bool) : Sp := fun vs H Q _ => ∃ (v : V) (d : PyData), vs = [v] ∧ Dt K H A v d ∧ ∀ H', Same H H' → Q (.bl (f d)) H'
def spIntD (K : PySem.W.Frag) (A : Option Addr) : Sp := fun vs H Q _ => ∃ (v : V) (d : PyData) (lo hi : Int), vs = [v, .int lo, .int hi] ∧ Dt K H A v d ∧ Q (.bl (dInt lo hi d)) H
def spShortD (K : PySem.W.Frag) (A : Option Addr) : Sp := fun vs H Q _ => ∃ (v : V) (d : PyData) (m : Int), vs = [v, .int m] ∧ Dt K H A v d ∧ ∀ H', Same H H' → Q (.bl (dShort m d)) H'
theorem dInt_inv {lo hi : Int} {d : PyData} (h : dInt lo hi d = true) : ∃ i, d = .int i ∧ lo ≤ i ∧ i ≤ hi := by
  cases d with
  | int i =>
    have h : decide (lo ≤ i ∧ i ≤ hi) = true := h
    exact ⟨i, rfl, (of_decide_eq_true h).1, (of_decide_eq_true h).2⟩
  | none => cases h
  | bool b => cases h
  | str z => cases h
  | list ds => cases h
  | tuple ds => cases h
  | dict k => cases h
theorem dShort_inv {m : Int} {d : PyData} (h : dShort m d = true) : ∃ z : Str, d = .str z ∧ isPr z = true ∧ (z.length : Int) ≤ m := by
  cases d with
  | str z =>
    have h : (isPr z && decide ((z.length : Int) ≤ m)) = true := h
    obtain ⟨h1, h2⟩ := Bool.and_eq_true_iff.mp h
    exact ⟨z, rfl, h1, of_decide_eq_true h2⟩
  | none => cases h
  | bool b => cases h
  | int i => cases h
  | list ds => cases h
  | tuple ds => cases h
  | dict k => cases h
theorem dCmd_inv {d : PyData} (h : dCmd d = true) : ∃ (c n : Int) (t : Str), d = .tuple [.int c, .int n, .str t] ∧ -100 ≤ c ∧ c ≤ -1 ∧ 1 ≤ n ∧ n ≤ 1000000000000 ∧ isPr t = true ∧ (t.length : Int) ≤ 240 := by
  unfold dCmd at h
  split at h
  · rename_i c n t
    rw [Bool.and_eq_true, Bool.and_eq_true] at h
    obtain ⟨⟨h1, h2⟩, h3⟩ := h
    obtain ⟨c, rfl, c0, c1⟩ := dInt_inv h1
    obtain ⟨n, rfl, n0, n1⟩ := dInt_inv h2
    obtain ⟨t, rfl, t0, t1⟩ := dShort_inv h3
    exact ⟨c, n, t, rfl, c0, c1, n0, n1, t0, t1⟩
  · cases h
/-- what a tuple of three ints, ints, texts stands for -/
theorem Dt.three {H : Hp} {A : Option Addr} {v : V} {d1 d2 d3 : PyData} (h : Dt K H A v (.tuple [d1, d2, d3])) : ∃ a x1 x2 x3, v = .ref a ∧ TupAt K H a [x1, x2, x3] ∧ Dt K H A x1 d1 ∧ Dt K H A x2 d2 ∧ Dt K H A x3 d3 := by
  cases h with
  | tup ha hd =>
    cases hd with
    | cons h1 hd =>
      cases hd with
      | cons h2 hd =>
        cases hd with
        | cons h3 hd =>
          cases hd
          exact ⟨_, _, _, _, rfl, ha, h1, h2, h3⟩
mutual
theorem Dt.any {H : Hp} {A : Option Addr} : ∀ (d : PyData) (v : V), Dt K H A v d → Dt K H none v d
  | .none, _, h => by cases h; exact .non
  | .bool b, _, h => by cases h; exact .bl b
  | .int i, _, h => by cases h; exact .int i
  | .str z, _, h => by cases h with | str _ hz => exact .str z hz
  | .list ds, _, h => by cases h with | lst hn ha hd => exact .lst trivial ha (DtAll.any ds _ hd)
  | .tuple ds, _, h => by cases h with | tup ha hd => exact .tup ha (DtAll.any ds _ hd)
  | .dict _, _, h => by cases h
theorem DtAll.any {H : Hp} {A : Option Addr} : ∀ (ds : List PyData) (xs : List V), DtAll K H A xs ds → DtAll K H none xs ds
  | [], _, h => by cases h; exact .nil
  | d :: ds, _, h => by cases h with | cons h1 h2 => exact .cons (Dt.any d _ h1) (DtAll.any ds _ h2)
end
theorem Dt.an {H : Hp} {A : Option Addr} {v : V} {d : PyData} (h : Dt K H A v d) : Dt K H none v d := Dt.any d v h
/-! data without lists -/
mutual
def noL : PyData → Bool
  | .list _ => false
  | .tuple ds => noLs ds
  | _ => true
def noLs : List PyData → Bool
  | [] => true
  | d :: r => noL d && noLs r
end
/-- tracked tuples stay -/
def Tp (H H' : Hp) : Prop := ∀ a xs, H a = some (.tup xs) → H' a = some (.tup xs)
mutual
theorem Dt.keep {H H' : Hp} {A B : Option Addr} (t : Tp H H') : ∀ (d : PyData) (v : V), noL d = true → Dt K H A v d → Dt K H' B v d
  | .none, _, _, h => by cases h; exact .non
  | .bool b, _, _, h => by cases h; exact .bl b
  | .int i, _, _, h => by cases h; exact .int i
  | .str z, _, _, h => by cases h with | str _ hz => exact .str z hz
  | .list ds, _, n, _ => by cases n
  | .tuple ds, _, n, h => by cases h with | tup ha hd => exact .tup (ha.imp (t _ _) id) (DtAll.keep t ds _ n hd)
  | .dict _, _, _, h => by cases h
theorem DtAll.keep {H H' : Hp} {A B : Option Addr} (t : Tp H H') : ∀ (ds : List PyData) (xs : List V), noLs ds = true → DtAll K H A xs ds → DtAll K H' B xs ds
  | [], _, _, h => by cases h; exact .nil
  | d :: ds, _, n, h => by
    have n : (noL d && noLs ds) = true := n
    rw [Bool.and_eq_true] at n
    cases h with | cons h1 h2 => exact .cons (Dt.keep t d _ n.1 h1) (DtAll.keep t ds _ n.2 h2)
end
theorem DtAll.snoc {H : Hp} {A : Option Addr} : ∀ {xs : List V} {ds : List PyData} {x : V} {d : PyData}, DtAll K H A xs ds → Dt K H A x d → DtAll K H A (xs ++ [x]) (ds ++ [d])
  | _, _, _, _, .nil, h => .cons h .nil
  | _, _, _, _, .cons h r, h2 => .cons h (r.snoc h2)
theorem TupAt.tp {H H' : Hp} {a : Addr} {xs : List V} (h : TupAt K H a xs) (t : Tp H H') : TupAt K H' a xs := h.imp (t _ _) id
theorem Same.tp {H H' : Hp} (s : Same H H') : Tp H H' := fun _ _ h => s _ _ h
theorem Mod.tp {H H' : Hp} {A D : Addr} (s : Mod A H H') (dr : Dr H D A) : Tp H H' := fun a xs h => by
  obtain ⟨_, _, _, _, e, _⟩ := id dr
  exact s _ _ (ne_of h e (by intro z; cases z)) h
theorem tp_put {H : Hp} {l : Addr} {xs ys : List V} (h : H l = some (.lst xs)) : Tp H (upd H l (.lst ys)) := fun a zs e => by
  rw [upd_ne (ne_of e h (by intro z; cases z))]; exact e
theorem dCmd_noL {d : PyData} (h : dCmd d = true) : noL d = true := by
  obtain ⟨c, n, t, rfl, _⟩ := dCmd_inv h
  rfl
theorem dCmdsFrom_noL : ∀ {ds : List PyData} {b : Option Int}, dCmdsFrom b ds = true → noLs ds = true
  | [], _, _ => rfl
  | d :: r, b, h => by
    rw [dCmdsFrom_cons, Bool.and_eq_true, Bool.and_eq_true] at h
    show (noL d && noLs r) = true
    rw [dCmd_noL h.1.1, dCmdsFrom_noL h.2]; rfl
theorem dCmdsFrom_all : ∀ {ds : List PyData} {b : Option Int}, dCmdsFrom b ds = true → ∀ d ∈ ds, dCmd d = true
  | [], _, _, _, m => nomatch m
  | d :: r, b, h, e, m => by
    rw [dCmdsFrom_cons, Bool.and_eq_true, Bool.and_eq_true] at h
    rcases List.mem_cons.mp m with rfl | m
    · exact h.1.1
    · exact dCmdsFrom_all h.2 e m
def lastC : Option Int → List PyData → Option Int
  | b, [] => b
  | _, d :: r => lastC (some (dClient d)) r
theorem lastC_snoc : ∀ (ds : List PyData) (b : Option Int) (d : PyData), lastC b (ds ++ [d]) = some (dClient d)
  | [], _, _ => rfl
  | _ :: r, _, d => lastC_snoc r _ d
theorem dCmdsFrom_snoc : ∀ (ds : List PyData) (b : Option Int) (d : PyData), dCmdsFrom b (ds ++ [d]) = (dCmdsFrom b ds && (dCmd d && dAfter (lastC b ds) d))
  | [], b, d => by
    show dCmdsFrom b [d] = _
    rw [dCmdsFrom_cons, dCmdsFrom_nil, dCmdsFrom_nil, Bool.and_true, Bool.true_and]; rfl
  | e :: r, b, d => by
    show dCmdsFrom b (e :: (r ++ [d])) = _
    rw [dCmdsFrom_cons, dCmdsFrom_snoc r, dCmdsFrom_cons, Bool.and_assoc, Bool.and_assoc, Bool.and_assoc]; rfl
end
theorem noLs_all : ∀ {ds : List PyData}, (∀ d ∈ ds, noL d = true) → noLs ds = true
  | [], _ => rfl
  | d :: r, h => by
    show (noL d && noLs r) = true
    rw [h d List.mem_cons_self, noLs_all (fun e he => h e (List.mem_cons_of_mem _ he))]; rfl

/-! ### slices and sums of tuples, as data -/
def cutD (ds : List PyData) (lo hi : Option Int) : List PyData := (ds.drop (HT.sIx ds.length 0 lo)).take (HT.sIx ds.length ds.length hi - HT.sIx ds.length 0 lo)
theorem DtAll.drop {K : PySem.W.Frag} {H : Hp} {A : Option Addr} : ∀ {xs : List V} {ds : List PyData} (n : Nat), DtAll K H A xs ds → DtAll K H A (xs.drop n) (ds.drop n)
  | _, _, 0, h => h
  | _, _, _ + 1, .nil => .nil
  | _, _, n + 1, .cons _ r => r.drop n
theorem DtAll.take {K : PySem.W.Frag} {H : Hp} {A : Option Addr} : ∀ {xs : List V} {ds : List PyData} (n : Nat), DtAll K H A xs ds → DtAll K H A (xs.take n) (ds.take n)
  | _, _, 0, _ => by rw [List.take_zero, List.take_zero]; exact .nil
  | _, _, _ + 1, .nil => .nil
  | _, _, n + 1, .cons h r => .cons h (r.take n)
theorem DtAll.app {K : PySem.W.Frag} {H : Hp} {A : Option Addr} : ∀ {xs ys : List V} {ds es : List PyData}, DtAll K H A xs ds → DtAll K H A ys es → DtAll K H A (xs ++ ys) (ds ++ es)
  | _, _, _, _, .nil, h => h
  | _, _, _, _, .cons h r, h2 => .cons h (r.app h2)
theorem sl_dt {K : PySem.W.Frag} {H : Hp} {b : Addr} {xs : List V} {ds : List PyData} {lo hi : Option Int} {Q : VK} (ha : TupAt K H b xs) (hx : DtAll K H none xs ds) (q : ∀ H' v, Same H H' → Dt K H' none v (.tuple (cutD ds lo hi)) → Q v H') : rSlA K (.ref b) lo hi H Q := by
  have hl := hx.length
  refine ⟨b, xs, rfl, ha.sq, fun hw => q _ _ (Same.refl H) ?_, fun _ p hp => q _ _ (same_upd hp) (.tup (.inl upd_same) ?_)⟩
  · have e : cutD ds lo hi = ds := by
      unfold cutD
      rw [← hl, hw.1, hw.2, List.drop_zero, Nat.sub_zero, hl, List.take_of_length_le (Nat.le_refl _)]
    rw [e]
    exact .tup ha hx
  · unfold cutV cutD
    rw [← hl]
    exact ((hx.drop _).take _).on (same_upd hp)
theorem cat_dt {K : PySem.W.Frag} {H : Hp} {v u : V} {ds es : List PyData} {Q : VK} (hv : Dt K H none v (.tuple ds)) (hu : Dt K H none u (.tuple es)) (hl : ds.length + es.length ≤ 100000) (q : ∀ H' v', Same H H' → Dt K H' none v' (.tuple (ds ++ es)) → Q v' H') : rCatA K v u H Q := by
  cases hv with
  | tup ha hx =>
    cases hu with
    | tup hb hy =>
      rename_i a xs b ys
      have l1 := hx.length
      have l2 := hy.length
      refine ⟨a, b, xs, ys, rfl, rfl, ha.sq, hb.sq, sz1000 (by omega), fun e => q _ _ (Same.refl H) ?_, fun _ e => q _ _ (Same.refl H) ?_, fun _ _ p hp => q _ _ (same_upd hp) (.tup (.inl upd_same) ((hx.app hy).on (same_upd hp)))⟩
      · rw [e] at l1
        rw [List.length_eq_zero_iff.mp l1.symm]
        exact .tup hb hy
      · rw [e] at l2
        rw [List.length_eq_zero_iff.mp l2.symm, List.append_nil]
        exact .tup ha hx
theorem cutD_take (ds : List PyData) (j : Nat) : cutD ds none (some (j : Int)) = ds.take j := by
  unfold cutD
  rw [HT.sIx_nat, HT.sIx_none, List.drop_zero, Nat.sub_zero]
  rcases Nat.le_total j ds.length with h | h
  · rw [Nat.min_eq_left h]
  · rw [Nat.min_eq_right h, List.take_of_length_le (Nat.le_refl _), List.take_of_length_le h]
theorem cutD_drop (ds : List PyData) (j : Nat) : cutD ds (some (j : Int)) none = ds.drop j := by
  unfold cutD
  rw [HT.sIx_nat, HT.sIx_none]
  rcases Nat.le_total j ds.length with h | h
  · rw [Nat.min_eq_left h, List.take_of_length_le (by rw [List.length_drop]; exact Nat.le_refl _)]
  · rw [Nat.min_eq_right h, Nat.sub_self, List.take_zero, List.drop_of_length_le h]

theorem atI_lt {α : Type} {xs : List α} {i : Int} (h0 : 0 ≤ i) (h1 : i < xs.length) : ∃ v, v ∈ xs ∧ atI xs i = some v := by
  obtain ⟨j, rfl⟩ := Int.eq_ofNat_of_zero_le h0
  have hj : j < xs.length := Int.ofNat_lt.mp h1
  exact ⟨xs[j], List.getElem_mem hj, atI_nat (List.getElem?_eq_getElem hj)⟩

/-! ### dicts as lists of pairs -/
section
variable {κ α : Type} [DecidableEq κ]
def gA (ks : List (κ × α)) (c : κ) : Option α := (ks.find? fun k => decide (k.1 = c)).map (·.2)
def pA (ks : List (κ × α)) (c : κ) (x : α) : List (κ × α) := if (ks.any fun k => decide (k.1 = c)) = true then ks.map (fun k => if k.1 = c then (k.1, x) else k) else ks ++ [(c, x)]
/-- the pairs as they stand in a dict -/
def kvs (em : κ → Key) (f : α → V) (ks : List (κ × α)) : List (Key × V) := ks.map fun k => (em k.1, f k.2)
def kOk (ks : List (κ × α)) : Prop := (ks.map (·.1)).Nodup
theorem gA_kvs {em : κ → Key} (inj : ∀ a b, em a = em b → a = b) (f : α → V) : ∀ (ks : List (κ × α)) (c : κ), valV (kvs em f ks) (em c) = (gA ks c).map f
  | [], _ => rfl
  | k :: r, c => by
    have ih := gA_kvs inj f r c
    unfold kvs valV gA at ih ⊢
    rw [List.map_cons, List.find?_cons, List.find?_cons]
    by_cases h : k.1 = c
    · have h1 : decide (em k.1 = em c) = true := decide_eq_true (by rw [h])
      rw [h1, decide_eq_true h]; rfl
    · have h1 : decide (em k.1 = em c) = false := decide_eq_false (fun z => h (inj _ _ z))
      rw [h1, decide_eq_false h]; exact ih
theorem pA_kvs {em : κ → Key} (inj : ∀ a b, em a = em b → a = b) (f : α → V) (ks : List (κ × α)) (c : κ) (x : α) : putK (kvs em f ks) (em c) (f x) = kvs em f (pA ks c x) := by
  have e : ∀ k : κ × α, decide (em k.1 = em c) = decide (k.1 = c) := fun k => decide_eq_decide.mpr ⟨fun z => inj _ _ z, fun z => by rw [z]⟩
  unfold putK pA kvs
  rw [List.any_map, show ((fun kv : Key × V => decide (kv.1 = em c)) ∘ fun k : κ × α => (em k.1, f k.2)) = fun k => decide (k.1 = c) from funext e]
  split
  · rw [List.map_map, List.map_map]
    refine List.map_congr_left fun k _ => ?_
    show (if em k.1 = em c then (em k.1, f x) else (em k.1, f k.2)) = (fun k : κ × α => (em k.1, f k.2)) (if k.1 = c then (k.1, x) else k)
    by_cases h : k.1 = c
    · rw [if_pos h, if_pos (by rw [h])]
    · rw [if_neg h, if_neg (fun z => h (inj _ _ z))]
  · rw [List.map_append]; rfl
theorem pA_len (ks : List (κ × α)) (c : κ) (x : α) : (pA ks c x).length ≤ ks.length + 1 := by
  unfold pA
  split
  · rw [List.length_map]; omega
  · rw [List.length_append]; exact Nat.le_refl _
theorem kvs_len (em : κ → Key) (f : α → V) (ks : List (κ × α)) : (kvs em f ks).length = ks.length := List.length_map _
theorem any_mem {ks : List (κ × α)} {c : κ} : (ks.any fun k => decide (k.1 = c)) = true ↔ c ∈ ks.map (·.1) := by
  rw [List.any_eq_true, List.mem_map]
  constructor
  · rintro ⟨k, hk, e⟩; exact ⟨k, hk, of_decide_eq_true e⟩
  · rintro ⟨k, hk, e⟩; exact ⟨k, hk, decide_eq_true e⟩
theorem pA_keys (ks : List (κ × α)) (c : κ) (x : α) : (pA ks c x).map (·.1) = if c ∈ ks.map (·.1) then ks.map (·.1) else ks.map (·.1) ++ [c] := by
  unfold pA
  by_cases h : c ∈ ks.map (·.1)
  · rw [if_pos (any_mem.mpr h), if_pos h, List.map_map]
    refine List.map_congr_left fun k _ => ?_
    show (if k.1 = c then (k.1, x) else k).1 = k.1
    split <;> rfl
  · rw [if_neg (fun z => h (any_mem.mp z)), if_neg h, List.map_append]; rfl
theorem pA_ok {ks : List (κ × α)} (c : κ) (x : α) (h : kOk ks) : kOk (pA ks c x) := by
  unfold kOk at *
  rw [pA_keys]
  split
  · exact h
  · rename_i hn
    rw [List.nodup_append]
    refine ⟨h, by simp, fun a ha b hb => ?_⟩
    have hb : b = c := by simpa using hb
    rw [hb]
    intro e
    exact hn (e ▸ ha)
theorem gA_none {ks : List (κ × α)} {c : κ} : gA ks c = none ↔ c ∉ ks.map (·.1) := by
  unfold gA
  rw [Option.map_eq_none_iff, List.find?_eq_none]
  constructor
  · intro h m
    obtain ⟨k, hk, e⟩ := List.mem_map.mp m
    exact h k hk (decide_eq_true e)
  · intro h k hk e
    exact h (List.mem_map.mpr ⟨k, hk, of_decide_eq_true e⟩)
theorem gA_mem : ∀ {ks : List (κ × α)} {k : κ × α}, kOk ks → k ∈ ks → gA ks k.1 = some k.2
  | q :: r, k, h, m => by
    unfold kOk at h
    rw [List.map_cons, List.nodup_cons] at h
    unfold gA
    rw [List.find?_cons]
    rcases List.mem_cons.mp m with rfl | m
    · rw [decide_eq_true rfl]; rfl
    · by_cases e : q.1 = k.1
      · exact absurd (e ▸ List.mem_map_of_mem (f := (·.1)) m) h.1
      · rw [decide_eq_false e]
        exact gA_mem (ks := r) h.2 m
theorem gA_some {ks : List (κ × α)} {c : κ} {x : α} (h : gA ks c = some x) : (c, x) ∈ ks := by
  unfold gA at h
  rw [Option.map_eq_some_iff] at h
  obtain ⟨k, h1, rfl⟩ := h
  have h2 := List.find?_some h1
  have h3 := List.mem_of_find?_eq_some h1
  have : k.1 = c := of_decide_eq_true h2
  rw [← this]; exact h3
theorem pA_mem {ks : List (κ × α)} {c : κ} {x : α} {k : κ × α} (h : k ∈ pA ks c x) : k = (c, x) ∨ (k ∈ ks ∧ k.1 ≠ c) := by
  unfold pA at h
  split at h
  · obtain ⟨q, hq, e⟩ := List.mem_map.mp h
    by_cases hc : q.1 = c
    · rw [if_pos hc] at e; exact .inl (by rw [← e, hc])
    · rw [if_neg hc] at e; subst e; exact .inr ⟨hq, hc⟩
  · rename_i hn
    rcases List.mem_append.mp h with h | h
    · exact .inr ⟨h, fun e => hn (any_mem.mpr (List.mem_map.mpr ⟨k, h, e⟩))⟩
    · exact .inl (List.mem_singleton.mp h)
theorem gA_put {ks : List (κ × α)} (h : kOk ks) (c d : κ) (x : α) : gA (pA ks c x) d = if d = c then some x else gA ks d := by
  have h2 := pA_ok c x h
  by_cases e : d = c
  · subst e
    rw [if_pos rfl]
    have hm : d ∈ (pA ks d x).map (·.1) := by
      rw [pA_keys]; split
      · assumption
      · exact List.mem_append_right _ (List.mem_singleton.mpr rfl)
    obtain ⟨k, hk, ek⟩ := List.mem_map.mp hm
    have := gA_mem h2 hk
    rw [ek] at this
    rw [this]
    rcases pA_mem hk with e | ⟨_, e⟩
    · rw [e]
    · exact absurd ek e
  · rw [if_neg e]
    cases g : gA ks d with
    | none =>
      rw [gA_none] at g ⊢
      rw [pA_keys]
      split
      · exact g
      · intro m
        rcases List.mem_append.mp m with m | m
        · exact g m
        · exact e (List.mem_singleton.mp m)
    | some y =>
      have hm := gA_some g
      have : (d, y) ∈ pA ks c x := by
        unfold pA
        split
        · exact List.mem_map.mpr ⟨(d, y), hm, if_neg e⟩
        · exact List.mem_append_left _ hm
      exact gA_mem h2 this
theorem kvs_keys {em : κ → Key} {f : α → V} {ks : List (κ × α)} : (kvs em f ks).map (·.1) = (ks.map (·.1)).map em := by
  unfold kvs
  rw [List.map_map, List.map_map]; rfl
end
theorem inlI : ∀ a b : Int, (Sum.inl a : Key) = Sum.inl b → a = b := fun _ _ z => Sum.inl.inj z
theorem inrI : ∀ a b : Str, (Sum.inr a : Key) = Sum.inr b → a = b := fun _ _ z => Sum.inr.inj z

/-! ### data for comparisons: shape and depth -/
def Ly (k : Nat) (d : PyData) : Prop := d.canLay0 = true ∧ d.depth ≤ k
theorem ly_all {k : Nat} : ∀ {ds : List PyData}, (∀ d ∈ ds, Ly k d) → PyData.canLayAll0 ds = true ∧ PyData.depthAll ds ≤ k
  | [], _ => ⟨by simp [PyData.canLayAll0], by simp [PyData.depthAll]⟩
  | d :: r, h => by
    obtain ⟨i1, i2⟩ := ly_all fun z hz => h z (List.mem_cons_of_mem _ hz)
    obtain ⟨l1, l2⟩ := h d List.mem_cons_self
    constructor
    · rw [PyData.canLayAll0, i1, l1]; rfl
    · rw [PyData.depthAll]; omega
theorem ly_tup {k : Nat} {ds : List PyData} (h : ∀ d ∈ ds, Ly k d) : Ly (k + 1) (.tuple ds) := by
  obtain ⟨a, b⟩ := ly_all h
  exact ⟨by rw [PyData.canLay0]; exact a, by rw [PyData.depth]; omega⟩
theorem ly_lst {k : Nat} {ds : List PyData} (h : ∀ d ∈ ds, Ly k d) : Ly (k + 1) (.list ds) := by
  obtain ⟨a, b⟩ := ly_all h
  exact ⟨by rw [PyData.canLay0]; exact a, by rw [PyData.depth]; omega⟩
theorem ly_int {k : Nat} (i : Int) : Ly k (.int i) := ⟨by simp [PyData.canLay0], by simp [PyData.depth]⟩
theorem ly_non {k : Nat} : Ly k .none := ⟨by simp [PyData.canLay0], by simp [PyData.depth]⟩
theorem ly_bl {k : Nat} (b : Bool) : Ly k (.bool b) := ⟨by simp [PyData.canLay0], by simp [PyData.depth]⟩
theorem ly_str {k : Nat} {z : Str} (h : PyData.strOk z = true) : Ly k (.str z) := ⟨by simp [PyData.canLay0, h], by simp [PyData.depth]⟩
theorem Ly.mono {k j : Nat} {d : PyData} (h : Ly k d) (le : k ≤ j) : Ly j d := ⟨h.1, Nat.le_trans h.2 le⟩
theorem ly_nil {k : Nat} : ∀ d ∈ ([] : List PyData), Ly k d := fun _ m => nomatch m
theorem ly_cons {k : Nat} {d : PyData} {r : List PyData} (h : Ly k d) (hr : ∀ d ∈ r, Ly k d) : ∀ e ∈ d :: r, Ly k e := fun e m => by
  rcases List.mem_cons.mp m with rfl | m
  · exact h
  · exact hr e m
theorem ly_app {k : Nat} {r s : List PyData} (hr : ∀ d ∈ r, Ly k d) (hs : ∀ d ∈ s, Ly k d) : ∀ e ∈ r ++ s, Ly k e := fun e m => by
  rcases List.mem_append.mp m with m | m
  · exact hr e m
  · exact hs e m
theorem shpL {d : PyData} (h : Ly 20 d) : SeqAt.shaped d = true ∧ PyData.eqv d d = true := by
  refine ⟨?_, SeqAt.eqv_refl _ h.1⟩
  unfold SeqAt.shaped
  rw [h.1, decide_eq_true (by have := h.2; omega)]; rfl

/-! ### comprehensions over a list or a range, as data -/
section
variable {K : PySem.W.Frag}
theorem filterMap_take {α β : Type} (F : α → Option β) (ds : List α) {i : Nat} {d : α} (h : ds[i]? = some d) : (ds.take (i + 1)).filterMap F = (ds.take i).filterMap F ++ (F d).toList := by
  rw [List.take_add_one, h, List.filterMap_append]
  congr 1
theorem noLs_app {xs ys : List PyData} (h1 : noLs xs = true) (h2 : noLs ys = true) : noLs (xs ++ ys) = true := noLs_all fun d hd => by
  rcases List.mem_append.mp hd with h | h
  · exact noLs_mem' h1 h
  · exact noLs_mem' h2 h
where noLs_mem' : ∀ {ds : List PyData} {d : PyData}, noLs ds = true → d ∈ ds → noL d = true
  | e :: r, d, h, m => by
    have h : (noL e && noLs r) = true := h
    rw [Bool.and_eq_true] at h
    rcases List.mem_cons.mp m with rfl | m
    · exact h.1
    · exact noLs_mem' h.2 m
/-- over a walk whose items are told by P -/
theorem lc_walk {α : Type} {J : It} {n : Nat} {G : Hp → Prop} {Y : Nat → Hp → V → Hp → Prop} (w : Walk J n G Y) {g : TG} {tt : TT} {te : TE} {vs : List Nat} {σ : L2.St} {H1 : Hp} {D : Addr} {Qd : Hp → Prop} (hD : H1 D = none) (ds : List α) (hl : ds.length = n) (hn : n ≤ 100000) (F : α → Option PyData)
    (hF : ∀ d e, d ∈ ds → F d = some e → noL e = true)
    (hG : ∀ H', Same H1 H' → G H') (hY : ∀ i H x H', Y i H x H' → H' = H)
    (hs : ∀ i x d H7, i < n → ds[i]? = some d → Same H1 H7 → Y i H7 x H7 → ∀ (R : V → Hp → Prop) (R0 : Hp → Prop), (∀ e, F d = some e → ∀ y H8, Same H7 H8 → Dt K H8 none y e → R y H8) → (F d = none → ∀ H8, Same H7 H8 → R0 H8) →
      g x (wipe σ vs) H7 fun σ2 H2 => wipe σ2 vs = wipe σ vs ∧ tt σ2 H2 fun b H3 => if b = true then te σ2 H3 R else R0 H3)
    (hd : ∀ H' xs', Same H1 H' → H' D = some (.lst xs') → DtAll K H' none xs' (ds.filterMap F) → Qd H') :
    ∃ W : Nat → Nat → Hp → Prop, (∃ m, W 0 m (upd H1 D (.lst []))) ∧ ∀ i m H, W i m H →
      (J.stop i H ∧ Qd H) ∨ (J.go i H ∧ ∃ Nx : Hp → Prop, (∀ H', Nx H' → ∃ m', m' < m ∧ W (i + 1) m' H') ∧ ∀ x H', J.yld i H x H' → g x (wipe σ vs) H' fun σ2 H2 => wipe σ2 vs = wipe σ vs ∧ tt σ2 H2 fun b H3 =>
        if b = true then te σ2 H3 fun y H4 => ∃ acc, H4 D = some (.lst acc) ∧ acc.length < sizeLine ∧ Nx (upd H4 D (.lst (acc ++ [y]))) else Nx H3) := by
  refine lc_it w (Pv := fun i H' => ∃ xs', Same H1 H' ∧ H' D = some (.lst xs') ∧ DtAll K H' none xs' ((ds.take i).filterMap F)) ⟨[], same_upd hD, upd_same, .nil⟩ (fun i H _ h => by obtain ⟨_, h, _⟩ := h; exact hG _ h) (fun i x H6 H7 hi hp hy => ?_) (fun H6 hp => ?_)
  · obtain ⟨xs', s6, hD6, hx6⟩ := hp
    obtain rfl := hY i H6 x H7 hy
    obtain ⟨d, gd⟩ : ∃ d, ds[i]? = some d := ⟨_, List.getElem?_eq_getElem (by omega)⟩
    have hx7 := filterMap_take F ds gd
    have hnl : noLs ((ds.take i).filterMap F) = true := noLs_all fun e he => by
      obtain ⟨d', hd', e'⟩ := List.mem_filterMap.mp he
      exact hF d' e (List.mem_of_mem_take hd') e'
    have hll : xs'.length ≤ i := by
      rw [hx6.length]
      have := List.length_filterMap_le F (ds.take i)
      rw [List.length_take] at this
      omega
    refine hs i x d H7 hi gd s6 hy _ _ (fun e he y H8 s8 hdy => ?_) (fun he H8 s8 => ?_)
    · have hD8 := s8 _ _ hD6
      refine ⟨xs', hD8, sz1000' (by omega), xs' ++ [y], same_mut (s6.trans s8) hD, upd_same, ?_⟩
      rw [hx7, he]
      have hne := hF d e (List.mem_of_getElem? gd) he
      exact DtAll.keep (A := none) (tp_put hD8) _ _ (noLs_app hnl (by show (noL e && true) = true; rw [hne]; rfl)) ((hx6.on s8).snoc hdy)
    · refine ⟨xs', s6.trans s8, s8 _ _ hD6, ?_⟩
      rw [hx7, he]
      show DtAll K H8 none xs' (_ ++ [])
      rw [List.append_nil]
      exact hx6.on s8
  · obtain ⟨xs', s6, hD6, hx6⟩ := hp
    rw [List.take_of_length_le (by omega)] at hx6
    exact hd _ _ s6 hD6 hx6
/-- over a list of data -/
theorem lc_list_dt {g : TG} {tt : TT} {te : TE} {vs : List Nat} {σ : L2.St} {H1 : Hp} {D a : Addr} {xs : List V} {ds : List PyData} {Qd : Hp → Prop} (hD : H1 D = none) (hq : SqL K H1 a xs) (hx : DtAll K H1 none xs ds) (hn : xs.length ≤ 100000) (F : PyData → Option PyData)
    (hF : ∀ d e, d ∈ ds → F d = some e → noL e = true)
    (hs : ∀ x d H7, d ∈ ds → Same H1 H7 → Dt K H7 none x d → ∀ (R : V → Hp → Prop) (R0 : Hp → Prop), (∀ e, F d = some e → ∀ y H8, Same H7 H8 → Dt K H8 none y e → R y H8) → (F d = none → ∀ H8, Same H7 H8 → R0 H8) →
      g x (wipe σ vs) H7 fun σ2 H2 => wipe σ2 vs = wipe σ vs ∧ tt σ2 H2 fun b H3 => if b = true then te σ2 H3 R else R0 H3)
    (hd : ∀ H' xs', Same H1 H' → H' D = some (.lst xs') → DtAll K H' none xs' (ds.filterMap F) → Qd H') :
    ∃ W : Nat → Nat → Hp → Prop, (∃ m, W 0 m (upd H1 D (.lst []))) ∧ ∀ i m H, W i m H →
      ((Itl K a).stop i H ∧ Qd H) ∨ ((Itl K a).go i H ∧ ∃ Nx : Hp → Prop, (∀ H', Nx H' → ∃ m', m' < m ∧ W (i + 1) m' H') ∧ ∀ x H', (Itl K a).yld i H x H' → g x (wipe σ vs) H' fun σ2 H2 => wipe σ2 vs = wipe σ vs ∧ tt σ2 H2 fun b H3 =>
        if b = true then te σ2 H3 fun y H4 => ∃ acc, H4 D = some (.lst acc) ∧ acc.length < sizeLine ∧ Nx (upd H4 D (.lst (acc ++ [y]))) else Nx H3) :=
  lc_walk (K := K) walk_list hD ds hx.length.symm hn F hF (fun _ s => s.seq hq) (fun _ _ _ _ y => y.1) (fun i x d H7 hi gd s7 hy R R0 => hs x d H7 (List.mem_of_getElem? gd) s7 (by
    obtain ⟨d', g', hd'⟩ := hx.get hy.2
    rw [gd] at g'
    cases g'
    exact hd'.on s7) R R0) hd
/-- over a range -/
theorem lc_range_dt {g : TG} {tt : TT} {te : TE} {vs : List Nat} {σ : L2.St} {H1 : Hp} {D : Addr} {lo : Int} {n : Nat} {Qd : Hp → Prop} (hD : H1 D = none) (hn : n ≤ 100000) (F : Nat → Option PyData)
    (hF : ∀ d e, d < n → F d = some e → noL e = true)
    (hs : ∀ i H7, i < n → Same H1 H7 → ∀ (R : V → Hp → Prop) (R0 : Hp → Prop), (∀ e, F i = some e → ∀ y H8, Same H7 H8 → Dt K H8 none y e → R y H8) → (F i = none → ∀ H8, Same H7 H8 → R0 H8) →
      g (.int (lo + i)) (wipe σ vs) H7 fun σ2 H2 => wipe σ2 vs = wipe σ vs ∧ tt σ2 H2 fun b H3 => if b = true then te σ2 H3 R else R0 H3)
    (hd : ∀ H' xs', Same H1 H' → H' D = some (.lst xs') → DtAll K H' none xs' ((List.range n).filterMap F) → Qd H') :
    ∃ W : Nat → Nat → Hp → Prop, (∃ m, W 0 m (upd H1 D (.lst []))) ∧ ∀ i m H, W i m H →
      ((Itr lo n).stop i H ∧ Qd H) ∨ ((Itr lo n).go i H ∧ ∃ Nx : Hp → Prop, (∀ H', Nx H' → ∃ m', m' < m ∧ W (i + 1) m' H') ∧ ∀ x H', (Itr lo n).yld i H x H' → g x (wipe σ vs) H' fun σ2 H2 => wipe σ2 vs = wipe σ vs ∧ tt σ2 H2 fun b H3 =>
        if b = true then te σ2 H3 fun y H4 => ∃ acc, H4 D = some (.lst acc) ∧ acc.length < sizeLine ∧ Nx (upd H4 D (.lst (acc ++ [y]))) else Nx H3) :=
  lc_walk (K := K) walk_range hD (List.range n) List.length_range hn F (fun d e hd he => hF d e (List.mem_range.mp hd) he) (fun _ _ => trivial) (fun _ _ _ _ y => y.1) (fun i x d H7 hi gd s7 hy R R0 h1 h2 => by
    obtain ⟨_, rfl⟩ := hy
    rw [List.getElem?_range hi] at gd
    cases gd
    exact hs i H7 hi s7 R R0 h1 h2) hd
end

/-! ### is_integer -/
/-- no int, told by its type -/
def NoInt (K : PySem.W.Frag) (H : Hp) (v : V) : Prop := ∃ T, TyX K H v (.type T) ∧ (kitB T "int" = some false ∨ (kitB T "int" = some true ∧ kitB T "bool" = some true))
def spInt (K : PySem.W.Frag) : Sp := fun vs H Q _ => ∃ (v : V) (lo hi : Int), vs = [v, .int lo, .int hi] ∧ ((∃ i, v = .int i ∧ Q (.bl (decide (lo ≤ i ∧ i ≤ hi))) H) ∨ (NoInt K H v ∧ Q (.bl false) H))
section
variable {P : Program} {w : World} {K : PySem.W.Frag} {mg : Str → Option Value} {base : Heap}
theorem c_is_integer {C_Client : Addr} {C_Group : Addr} {C_BadGroup : Addr} {C_FORMS : Addr} (T : Txt K mg w C_Client C_Group C_BadGroup C_FORMS) : Cal P w K mg base 1 "is_integer" (spInt K) [] := by
  refine cal T.d_is_integer sc_is_integer (fun vs H Q E h => ?_) (fun f cdv A outer s H vs Q E hr h => ?_)
  · obtain ⟨v, lo, hi, rfl, _⟩ := h; rfl
  obtain ⟨v, lo, hi, rfl, h⟩ := h
  refine ⟨_, (pss_one (ps_ret (pe_and (pe_callB (kisi (K := K)) (by rfl) T.z_isinstance (by decide +kernel) (pa_cons (pv 0) (pa_cons (pe_bltn (v := .ty "int") (by rfl) T.z_int (by decide +kernel) rfl) pa_nil))) (pe_and (pe_not (pe_callB (kisi (K := K)) (by rfl) T.z_isinstance (by decide +kernel) (pa_cons (pv 0) (pa_cons (pe_bltn (v := .ty "bool") (by rfl) T.z_bool (by decide +kernel) rfl) pa_nil)))) (pe_one (pe_chain op_le op_le (pv 1) (pv 0) (pv 2))))))), ?_⟩
  rcases h with ⟨i, rfl, q⟩ | ⟨⟨T, ty, hk⟩, q⟩
  · walk_at "rds"
    walk_at "isi"
    walk_at "rds"
    walk_at "isi"
    walk_at "rds"
    refine ite2 (fun e => ?_) (fun e => ?_)
    · have e := of_decide_eq_true e
      walk_at "rds"
      have e2 : decide (lo ≤ i ∧ i ≤ hi) = decide (i ≤ hi) := by simp [e]
      rw [e2] at q
      exact q
    · have e : ¬ lo ≤ i := fun z => e (decide_eq_true z)
      have e2 : decide (lo ≤ i ∧ i ≤ hi) = false := by simp [e]
      rw [e2] at q
      exact q
  · walk_at "rds"
    rcases hk with hk | ⟨hk, hb⟩
    · refine ⟨_, .ty _, _, _, false, rfl, .ty _, ty, kit_ty hk, ?_⟩
      walk_at "rds"
      exact q
    · refine ⟨_, .ty _, _, _, true, rfl, .ty _, ty, kit_ty hk, ?_⟩
      walk_at "rds"
      refine ⟨_, .ty _, _, _, true, rfl, .ty _, ty, kit_ty hb, ?_⟩
      walk_at "rds"
      exact q
end

/-! ### the group -/
def gF (n : Int) : List (Str × V) := putF "blocking" (.int (n + 1)) (putF "quorum" (.int (2 * n + 1)) (putF "machines" (.int (3 * n + 1)) (putF "faults" (.int n) [])))
theorem gF_f (n : Int) : (gF n).lookup ("faults" : Str) = some (V.int n) := by rfl
theorem gF_m (n : Int) : (gF n).lookup ("machines" : Str) = some (V.int (3 * n + 1)) := by rfl
theorem gF_q (n : Int) : (gF n).lookup ("quorum" : Str) = some (V.int (2 * n + 1)) := by rfl
theorem gF_b (n : Int) : (gF n).lookup ("blocking" : Str) = some (V.int (n + 1)) := by rfl
/-- a Group stands at p -/
def GrAt (C : Addr) (H : Hp) (p : Addr) (n : Int) : Prop := ∃ dx, H p = some (.ins C dx (gF n))
/-- v is no int from 0 to m -/
def Bad (K : PySem.W.Frag) (H : Hp) (m : Int) (v : V) : Prop := NoInt K H v ∨ ∃ i, v = .int i ∧ ¬ (0 ≤ i ∧ i ≤ m)
def spGInit (K : PySem.W.Frag) (C B : Addr) : Sp := fun vs H Q E => ∃ (p dx : Addr) (v : V), vs = [.ref p, v] ∧ H p = some (.ins C dx []) ∧
  ((∃ n, v = .int n ∧ 0 ≤ n ∧ n ≤ 10 ∧ ∀ (H' : Hp), (∀ b o, H b = some o → b ≠ p → H' b = some o) → GrAt C H' p n → Q .non H') ∨ (Bad K H 10 v ∧ E (.ref B) none H))
section
variable {P : Program} {w : World} {K : PySem.W.Frag} {mg : Str → Option Value} {base : Heap}
theorem k_Group {C_Client : Addr} {C_Group : Addr} {C_BadGroup : Addr} {C_FORMS : Addr} (T : Txt K mg w C_Client C_Group C_BadGroup C_FORMS) : MakX P w K mg base 2 "Group" C_Group (spGInit K C_Group C_BadGroup) := by
  have c_is_integer := c_is_integer (P := P) (w := w) (base := base) T
  refine makX T.g_Group T.mk_Group sc_Group____init__ (fun vs H Q E h => ?_) (fun f cdv A outer s H vs Q E hr h => ?_)
  · obtain ⟨p, dx, v, rfl, _⟩ := h; rfl
  obtain ⟨p, dx, v, rfl, hp, h⟩ := h
  refine ⟨_, (pss_cons (ps_if (pt_not (pt_val (pe_c c_is_integer hr (by decide) (by rfl) (pa_cons (pv 1) (pa_cons pe_int (pa_cons (pe_gc (by rfl) T.c_MOST_FAULTS) pa_nil)))))) (pss_one (ps_raise rfl (takes_of rfl rfl rfl rfl) (pmk_ok T.x_BadGroup (by rfl)))) pss_nil)
      (pss_cons (ps_fld (pv 0) (pv 1) rfl)
      (pss_cons (ps_fld (pv 0) (pe_op op_add (pe_op op_mul pe_int (pv 1)) pe_int) rfl)
      (pss_cons (ps_fld (pv 0) (pe_op op_add (pe_op op_mul pe_int (pv 1)) pe_int) rfl)
      (pss_one (ps_fld (pv 0) (pe_op op_add (pv 1) pe_int) rfl)))))), ?_⟩
  walk_at "rds"
  rcases h with ⟨n, rfl, h0, h1, q⟩ | ⟨hb, q⟩
  · refine ⟨.int n, 0, 10, rfl, .inl ⟨n, rfl, ?_⟩⟩
    refine ⟨_, rfl, ?_⟩
    refine ifF (by simp [h0, h1]) ?_
    walk_at "rds"
    refine ⟨p, _, dx, _, rfl, hp, T.cl_Group, T.na_Group_faults, by decide, ?_⟩
    walk_at "rds"
    refine ⟨p, _, dx, _, rfl, upd_same, T.cl_Group, T.na_Group_machines, (by show 1 < 1000; decide), ?_⟩
    walk_at "rds"
    refine ⟨p, _, dx, _, rfl, upd_same, T.cl_Group, T.na_Group_quorum, (by show 2 < 1000; decide), ?_⟩
    walk_at "rds"
    refine ⟨p, _, dx, _, rfl, upd_same, T.cl_Group, T.na_Group_blocking, (by show 3 < 1000; decide), ?_⟩
    exact q _ (fun b o e hb => by rw [upd_ne hb, upd_ne hb, upd_ne hb, upd_ne hb]; exact e) ⟨dx, upd_same⟩
  · rcases hb with hb | ⟨i, rfl, hb⟩
    · refine ⟨v, 0, 10, rfl, .inr ⟨hb, ?_⟩⟩
      refine ⟨_, rfl, ?_⟩
      refine ifT rfl ?_
      exact q
    · refine ⟨.int i, 0, 10, rfl, .inl ⟨i, rfl, ?_⟩⟩
      refine ⟨_, rfl, ?_⟩
      refine ifT (by rw [decide_eq_false hb]; rfl) ?_
      exact q
end

def spMembers (C : Addr) : Sp := fun vs H Q _ => ∃ (p : Addr) (n : Int), vs = [.ref p] ∧ GrAt C H p n ∧ 0 ≤ n ∧ n ≤ 10 ∧ ∀ q, H q = none → Q (.ref q) (upd H q (.lst (rgV 0 (3 * n + 1))))
section
variable {P : Program} {w : World} {K : PySem.W.Frag} {mg : Str → Option Value} {base : Heap}
theorem m_Group__members {C_Client : Addr} {C_Group : Addr} {C_BadGroup : Addr} {C_FORMS : Addr} (T : Txt K mg w C_Client C_Group C_BadGroup C_FORMS) : Met P w K mg base 1 C_Group "members" (spMembers C_Group) [] := by
  refine met T.cl_Group T.me_Group__members sc_Group__members (fun vs H Q E h => ?_) (fun f cdv A outer s H vs Q E hr h => ?_)
  · obtain ⟨p, n, rfl, _⟩ := h; rfl
  obtain ⟨p, n, rfl, ⟨dx, g⟩, h0, h1, q⟩ := h
  refine ⟨_, (pss_one (ps_ret (pe_listRg (by rfl) (by rfl) T.z_list (prg_1 (by rfl) T.z_range (pe_fld (pv 0) rfl))))), ?_⟩
  walk_at "rds"
  refine ⟨p, _, dx, _, _, rfl, g, T.cl_Group, T.na_Group_machines, gF_m n, ?_⟩
  refine ⟨_, rfl, RgOk.of_le (by decide) (by omega) (by decide) (by omega), fun l hl => q l hl⟩
end

def spIsMember (K : PySem.W.Frag) (C : Addr) : Sp := fun vs H Q _ => ∃ (p : Addr) (n : Int) (v : V), vs = [.ref p, v] ∧ GrAt C H p n ∧ ((∃ i, v = .int i ∧ Q (.bl (decide (0 ≤ i ∧ i ≤ 3 * n + 1 - 1))) H) ∨ (NoInt K H v ∧ Q (.bl false) H))
section
variable {P : Program} {w : World} {K : PySem.W.Frag} {mg : Str → Option Value} {base : Heap}
theorem m_Group__is_member {C_Client : Addr} {C_Group : Addr} {C_BadGroup : Addr} {C_FORMS : Addr} (T : Txt K mg w C_Client C_Group C_BadGroup C_FORMS) : Met P w K mg base 2 C_Group "is_member" (spIsMember K C_Group) [] := by
  have c_is_integer := c_is_integer (P := P) (w := w) (base := base) T
  refine met T.cl_Group T.me_Group__is_member sc_Group__is_member (fun vs H Q E h => ?_) (fun f cdv A outer s H vs Q E hr h => ?_)
  · obtain ⟨p, n, v, rfl, _⟩ := h; rfl
  obtain ⟨p, n, v, rfl, ⟨dx, g⟩, h⟩ := h
  refine ⟨_, (pss_one (ps_ret (pe_c c_is_integer hr (by decide) (by rfl) (pa_cons (pv 1) (pa_cons pe_int (pa_cons (pe_op op_sub (pe_fld (pv 0) rfl) pe_int) pa_nil)))))), ?_⟩
  walk_at "rds"
  refine ⟨p, _, dx, _, _, rfl, g, T.cl_Group, T.na_Group_machines, gF_m n, ?_⟩
  walk_at "rds"
  exact ⟨v, 0, _, rfl, h⟩
end

/-! ### _law_rich -/
def spRich : Sp := fun vs H Q _ => ∃ (c k : Int), vs = [.int c, .int k] ∧ 0 ≤ k ∧ k ≤ 100 ∧ ∀ r : Int, Q (.int r) H
section
variable {P : Program} {w : World} {K : PySem.W.Frag} {mg : Str → Option Value} {base : Heap}
theorem c__law_rich {C_Client : Addr} {C_Group : Addr} {C_BadGroup : Addr} {C_FORMS : Addr} (T : Txt K mg w C_Client C_Group C_BadGroup C_FORMS) : Cal P w K mg base 1 "_law_rich" spRich [] := by
  refine cal T.d__law_rich sc__law_rich (fun vs H Q E h => ?_) (fun f cdv A' outer s H vs Q E hr h => ?_)
  · obtain ⟨c, k, rfl, _⟩ := h; rfl
  obtain ⟨c, k, rfl, hk0, hk1, q⟩ := h
  refine ⟨_, (pss_cons (ps_if (pt_cmpR op_ge (pv 0) (pe_op op_pow pe_int pe_int) (nomark _)) (pss_one (ps_ret (pe_callTy call_int1 (by rfl) T.z_int (by decide +kernel) (pa_cons (pv 0) pa_nil)))) pss_nil)
      (pss_cons (ps_set (i := 2) sc__law_rich.nd rfl (Or.inl rfl) (pe_op op_mod (pe_callTy call_int1 (by rfl) T.z_int (by decide +kernel) (pa_cons (pe_op op_add (pe_op op_add (pe_op op_mul (pv 0) pe_int) (pe_op op_mul (pv 1) pe_int)) pe_int) pa_nil)) pe_int))
      (pss_one (ps_ret (pe_op op_add (pe_op op_mul (pv 2) pe_int) (pe_op op_mod (pe_callTy call_int1 (by rfl) T.z_int (by decide +kernel) (pa_cons (pe_op op_add (pe_op op_mul (pv 2) pe_int) (pv 0)) pa_nil)) pe_int)))))), ?_⟩
  walk_at "rds"
  refine ite2 (fun _ => ?_) (fun _ => ?_)
  · walk_at "rds"
    exact q _
  · walk_at "rds"
    exact q _
end

def NoStr (K : PySem.W.Frag) (H : Hp) (v : V) : Prop := ∃ T, TyX K H v (.type T) ∧ kitB T "str" = some false
def spPrint (K : PySem.W.Frag) : Sp := fun vs H Q _ => ∃ (v : V), vs = [v] ∧ ((∃ z : Str, v = .str z ∧ z.length ≤ 16000000 ∧ ∀ H', Same H H' → Q (.bl (isPr z)) H') ∨ (NoStr K H v ∧ Q (.bl false) H))
theorem print128 : ∀ c : Nat, c < 128 → (Unicode.isPrintable c = true ↔ (32 ≤ c ∧ c ≤ 126)) := by
  intro c hc
  have h : ∀ c : Fin 128, (Unicode.isPrintable c.val = true ↔ (32 ≤ c.val ∧ c.val ≤ 126)) := by decide +kernel
  exact h ⟨c, hc⟩
theorem asc_list {z : Str} : Txt.isascii z = true ↔ ∀ c ∈ z.cps.toList, c < 128 := by
  unfold Txt.isascii
  rw [← Array.all_toList, List.all_eq_true]
  simp
theorem pri_list {z : Str} : Txt.isprintable z = true ↔ ∀ c ∈ z.cps.toList, Unicode.isPrintable c = true := by
  unfold Txt.isprintable
  rw [← Array.all_toList, List.all_eq_true]
theorem isPr_iff {z : Str} : isPr z = true ↔ ∀ c ∈ z.cps.toList, 32 ≤ c ∧ c ≤ 126 ∧ c ≠ 37 := by
  unfold isPr
  rw [List.all_eq_true]
  simp [prC, and_assoc]
theorem out37_len {l : List Nat} : (out37 l).length = l.length ↔ ∀ c ∈ l, c ≠ 37 := by
  unfold out37
  rw [List.length_filter_eq_length_iff]
  simp
section
variable {P : Program} {w : World} {K : PySem.W.Frag} {mg : Str → Option Value} {base : Heap}
theorem c_is_printable {C_Client : Addr} {C_Group : Addr} {C_BadGroup : Addr} {C_FORMS : Addr} (T : Txt K mg w C_Client C_Group C_BadGroup C_FORMS) : Cal P w K mg base 1 "is_printable" (spPrint K) [] := by
  refine cal T.d_is_printable sc_is_printable (fun vs H Q E h => ?_) (fun f cdv A outer s H vs Q E hr h => ?_)
  · obtain ⟨v, rfl, _⟩ := h; rfl
  obtain ⟨v, rfl, h⟩ := h
  refine ⟨_, (pss_cons (ps_if (PW.pt (pw_or (pt_not (pt_val (pe_callB (kisi (K := K)) (by rfl) T.z_isinstance (by decide +kernel) (pa_cons (pv 0) (pa_cons (pe_bltn (v := .ty "str") (by rfl) T.z_str (by decide +kernel) rfl) pa_nil))))) (pw_or (pt_not (pt_val (pe_bm0 PySem.F.plainAttrs_str PySem.F.slot_str_isascii PySem.F.type_str_isascii mt_isascii (pv 0)))) (pw_or1 (pt_not (pt_val (pe_bm0 PySem.F.plainAttrs_str PySem.F.slot_str_isprintable PySem.F.type_str_isprintable mt_isprintable (pv 0)))))))) (pss_one (ps_ret pe_bl)) pss_nil)
      (pss_one (ps_ret (pe_cmpR op_eq (pe_callB call_len_str (by rfl) T.z_len (by decide +kernel) (pa_cons (pe_bm PySem.F.plainAttrs_str PySem.F.slot_str_translate PySem.F.type_str_translate (mt_tr37 rfl) (pv 0) (pa_cons (pe_disp (pps_cons pe_int pe_non pps_nil) rfl rfl (by intro z; cases z) (by decide)) pa_nil)) pa_nil)) (pe_callB call_len_str (by rfl) T.z_len (by decide +kernel) (pa_cons (pv 0) pa_nil)) (nomark _))))), ?_⟩
  rcases h with ⟨z, rfl, hz, q⟩ | ⟨⟨T, ty, hk⟩, q⟩
  · walk_at "rds"
    walk_at "isi"
    walk_at "rds"
    refine ⟨rfl, _, rfl, rfl, trivial, ?_⟩
    walk_at "rds"
    cases ha : Txt.isascii z with
    | false =>
      have e : isPr z = false := by
        cases e : isPr z with
        | false => rfl
        | true =>
          have := asc_list.mpr (fun c hc => by have := isPr_iff.mp e c hc; omega)
          rw [ha] at this; cases this
      rw [e] at q
      walk_at "rds"
      exact q H (Same.refl H)
    | true =>
      have ha := asc_list.mp ha
      walk_at "rds"
      refine ⟨rfl, _, rfl, rfl, trivial, ?_⟩
      walk_at "rds"
      cases hp : Txt.isprintable z with
      | false =>
        have e : isPr z = false := by
          cases e : isPr z with
          | false => rfl
          | true =>
            have := pri_list.mpr (fun c hc => by have := isPr_iff.mp e c hc; exact (print128 c (by omega)).mpr ⟨by omega, by omega⟩)
            rw [hp] at this; cases this
        rw [e] at q
        walk_at "rds"
        exact q H (Same.refl H)
      | true =>
        have hp := pri_list.mp hp
        walk_at "rds"
        refine ⟨rfl, fun p np => ?_⟩
        refine ⟨upd_same, [(Sum.inl 37, .non)], rfl, by decide, ?_⟩
        refine ⟨z, p, rfl, rfl, upd_same, ha, hz, ?_⟩
        have l37 : (SX.S (out37 z.cps.toList)).length ≤ 16000000 := by
          rw [SX.S_len]
          exact Nat.le_trans (List.length_filter_le _ _) (by rw [len_tl]; exact hz)
        walk_at "rds"
        have e : decide (V.int ((SX.S (out37 z.cps.toList)).length : Int) = V.int (z.length : Int)) = isPr z := by
          rw [SX.S_len]
          have hl := @out37_len z.cps.toList
          rw [len_tl] at hl
          cases e : isPr z with
          | true =>
            refine decide_eq_true ?_
            rw [hl.mpr (fun c hc => (isPr_iff.mp e c hc).2.2)]
          | false =>
            refine decide_eq_false fun z' => ?_
            have h1 := hl.mp (Int.ofNat.inj (V.int.inj z'))
            have : isPr z = true := isPr_iff.mpr (fun c hc => ⟨((print128 c (ha c hc)).mp (hp c hc)).1, ((print128 c (ha c hc)).mp (hp c hc)).2, h1 c hc⟩)
            rw [e] at this; cases this
        rw [← e] at q
        exact q _ (same_mut (same_upd np) np)
  · walk_at "rds"
    refine ⟨_, .ty _, _, _, false, rfl, .ty _, ty, kit_ty hk, ?_⟩
    walk_at "rds"
    exact q
end

/-! ### letters -/
def spNumber : Sp := fun vs H Q _ => ∃ i : Int, vs = [.int i] ∧ Q (.bl (decide (1 ≤ i ∧ i ≤ 1000000000000))) H
def spShort (K : PySem.W.Frag) : Sp := fun vs H Q _ => ∃ (z : Str) (m : Int), vs = [.str z, .int m] ∧ isPr z = true ∧ z.length ≤ 200 ∧ 200 ≤ m ∧ ∀ H', Same H H' → Q (.bl true) H'
def spHolds (K : PySem.W.Frag) : Sp := fun vs H Q _ => ∃ (a : Addr) (i : Int) (z : Str), vs = [.ref a] ∧ TupAt K H a [.int i, .str z] ∧ 1 ≤ i ∧ i ≤ 1000 ∧ isPr z = true ∧ z.length ≤ 200 ∧ ∀ H', Same H H' → Q (.bl true) H'
def spLetter (K : PySem.W.Frag) : Sp := fun vs H Q _ => ∃ (a : Addr) (g : Str) (i : Int) (z : Str), vs = [.ref a] ∧ TupAt K H a [.str g, .int i, .str z] ∧ (g = "answer" ∨ g = "command") ∧ 1 ≤ i ∧ i ≤ 1000 ∧ isPr z = true ∧ z.length ≤ 200 ∧ ∀ H', Same H H' → Q (.bl true) H'
section
variable {P : Program} {w : World} {K : PySem.W.Frag} {mg : Str → Option Value} {base : Heap}
theorem c_is_number {C_Client : Addr} {C_Group : Addr} {C_BadGroup : Addr} {C_FORMS : Addr} (T : Txt K mg w C_Client C_Group C_BadGroup C_FORMS) : Cal P w K mg base 2 "is_number" spNumber [] := by
  have c_is_integer := c_is_integer (P := P) (w := w) (K := K) (base := base) T
  refine cal T.d_is_number sc_is_number (fun vs H Q E h => ?_) (fun f cdv A outer s H vs Q E hr h => ?_)
  · obtain ⟨i, rfl, _⟩ := h; rfl
  obtain ⟨i, rfl, q⟩ := h
  refine ⟨_, (pss_one (ps_ret (pe_c c_is_integer hr (by decide) (by rfl) (pa_cons (pv 0) (pa_cons pe_int (pa_cons (pe_gc (by rfl) T.c_MOST_NUMBER) pa_nil)))))), ?_⟩
  walk_at "rds"
  exact ⟨.int i, 1, _, rfl, .inl ⟨i, rfl, q⟩⟩
theorem c_is_short {C_Client : Addr} {C_Group : Addr} {C_BadGroup : Addr} {C_FORMS : Addr} (T : Txt K mg w C_Client C_Group C_BadGroup C_FORMS) : Cal P w K mg base 2 "is_short" (spShort K) [] := by
  have c_is_printable := c_is_printable (P := P) (w := w) (K := K) (base := base) T
  refine cal T.d_is_short sc_is_short (fun vs H Q E h => ?_) (fun f cdv A outer s H vs Q E hr h => ?_)
  · obtain ⟨z, m, rfl, _⟩ := h; rfl
  obtain ⟨z, m, rfl, pz, lz, lm, q⟩ := h
  refine ⟨_, (pss_one (ps_ret (pe_and (pe_c c_is_printable hr (by decide) (by rfl) (pa_cons (pv 0) pa_nil)) (pe_one (pe_cmpR op_le (pe_callB call_len_str (by rfl) T.z_len (by decide +kernel) (pa_cons (pv 0) pa_nil)) (pv 1) (nomark _)))))), ?_⟩
  walk_at "rds"
  refine .inl ⟨z, rfl, by omega, fun H' s' => ?_⟩
  rw [pz]
  walk_at "rds"
  rw [show (fun i j : Int => V.bl (decide (i ≤ j))) (z.length : Int) m = V.bl true from congrArg V.bl (decide_eq_true (by omega))]
  exact q _ s'
theorem c_holds_request {C_Client : Addr} {C_Group : Addr} {C_BadGroup : Addr} {C_FORMS : Addr} (T : Txt K mg w C_Client C_Group C_BadGroup C_FORMS) : Cal P w K mg base 3 "holds_request" (spHolds K) [] := by
  have c_is_number := c_is_number (P := P) (w := w) (K := K) (base := base) T
  have c_is_short := c_is_short (P := P) (w := w) (K := K) (base := base) T
  refine cal T.d_holds_request sc_holds_request (fun vs H Q E h => ?_) (fun f cdv A outer s H vs Q E hr h => ?_)
  · obtain ⟨a, i, z, rfl, _⟩ := h; rfl
  obtain ⟨a, i, z, rfl, ta, i1, i2, pz, lz, q⟩ := h
  refine ⟨_, (pss_one (ps_ret (pe_and (pe_cmpR op_eq (pe_callB (klen (K := K)) (by rfl) T.z_len (by decide +kernel) (pa_cons (pv 0) pa_nil)) pe_int (nomark _)) (pe_and (pe_c c_is_number hr (by decide) (by rfl) (pa_cons (pe_ix (kixt (K := K)) (pv 0) pe_int (fun _ _ => rfl)) pa_nil)) (pe_one (pe_c c_is_short hr (by decide) (by rfl) (pa_cons (pe_ix (kixt (K := K)) (pv 0) pe_int (fun _ _ => rfl)) (pa_cons (pe_gc (by rfl) T.c_MOST_TEXT) pa_nil)))))))), ?_⟩
  walk_at "rds"
  refine ⟨a, _, rfl, .inr ta.sq, ?_⟩
  walk_at "rds"
  refine ⟨a, _, 0, _, rfl, rfl, ta.sq, atI_nat (j := 0) rfl, ?_⟩
  walk_at "rds"
  refine ifT (decide_eq_true ⟨i1, by omega⟩) ?_
  walk_at "rds"
  refine ⟨a, _, 1, _, rfl, rfl, ta.sq, atI_nat (j := 1) rfl, ?_⟩
  walk_at "rds"
  exact ⟨z, _, rfl, pz, lz, by decide, q⟩
theorem c_holds_answer {C_Client : Addr} {C_Group : Addr} {C_BadGroup : Addr} {C_FORMS : Addr} (T : Txt K mg w C_Client C_Group C_BadGroup C_FORMS) : Cal P w K mg base 3 "holds_answer" (spHolds K) [] := by
  have c_is_number := c_is_number (P := P) (w := w) (K := K) (base := base) T
  have c_is_short := c_is_short (P := P) (w := w) (K := K) (base := base) T
  refine cal T.d_holds_answer sc_holds_answer (fun vs H Q E h => ?_) (fun f cdv A outer s H vs Q E hr h => ?_)
  · obtain ⟨a, i, z, rfl, _⟩ := h; rfl
  obtain ⟨a, i, z, rfl, ta, i1, i2, pz, lz, q⟩ := h
  refine ⟨_, (pss_one (ps_ret (pe_and (pe_cmpR op_eq (pe_callB (klen (K := K)) (by rfl) T.z_len (by decide +kernel) (pa_cons (pv 0) pa_nil)) pe_int (nomark _)) (pe_and (pe_c c_is_number hr (by decide) (by rfl) (pa_cons (pe_ix (kixt (K := K)) (pv 0) pe_int (fun _ _ => rfl)) pa_nil)) (pe_one (pe_c c_is_short hr (by decide) (by rfl) (pa_cons (pe_ix (kixt (K := K)) (pv 0) pe_int (fun _ _ => rfl)) (pa_cons (pe_gc (by rfl) T.c_MOST_ANSWER) pa_nil)))))))), ?_⟩
  walk_at "rds"
  refine ⟨a, _, rfl, .inr ta.sq, ?_⟩
  walk_at "rds"
  refine ⟨a, _, 0, _, rfl, rfl, ta.sq, atI_nat (j := 0) rfl, ?_⟩
  walk_at "rds"
  refine ifT (decide_eq_true ⟨i1, by omega⟩) ?_
  walk_at "rds"
  refine ⟨a, _, 1, _, rfl, rfl, ta.sq, atI_nat (j := 1) rfl, ?_⟩
  walk_at "rds"
  exact ⟨z, _, rfl, pz, lz, by decide, q⟩
theorem cal_at {k : Nat} {x : Str} {sp : Sp} {f : Addr} (c : Cal P w K mg base k x sp []) (h : mg x = some (.ref f)) : C8.CalAt P w K mg base k f sp := by
  obtain ⟨f', fd, ps, ds, F, hm, kp, b, d⟩ := c.ex
  rw [h] at hm
  cases hm
  cases d
  exact ⟨fd, ps, F, kp, b⟩
theorem c_is_letter {C_Client : Addr} {C_Group : Addr} {C_BadGroup : Addr} {C_FORMS : Addr} (T : Txt K mg w C_Client C_Group C_BadGroup C_FORMS) : Cal P w K mg base 4 "is_letter" (spLetter K) [] := by
  have c_holds_answer := c_holds_answer (P := P) (w := w) (K := K) (base := base) T
  have c_holds_request := c_holds_request (P := P) (w := w) (K := K) (base := base) T
  obtain ⟨f1, m1, k1⟩ := T.kf_FORMS_answer
  obtain ⟨f2, m2, k2⟩ := T.kf_FORMS_command
  have ca1 := cal_at c_holds_answer m1
  have ca2 := cal_at c_holds_request m2
  refine cal T.d_is_letter sc_is_letter (fun vs H Q E h => ?_) (fun f cdv A outer s H vs Q E hr h => ?_)
  · obtain ⟨a, g, i, z, rfl, _⟩ := h; rfl
  obtain ⟨a, g, i, z, rfl, ta, hg, i1, i2, pz, lz, q⟩ := h
  refine ⟨_, (pss_cons (ps_if (PW.pt (pw_or (pt_not (pt_val (pe_callB (kisi (K := K)) (by rfl) T.z_isinstance (by decide +kernel) (pa_cons (pv 0) (pa_cons (pe_bltn (v := .ty "tuple") (by rfl) T.z_tuple (by decide +kernel) rfl) pa_nil))))) (pw_or1 (pt_cmpR op_eq (pe_callB (klen (K := K)) (by rfl) T.z_len (by decide +kernel) (pa_cons (pv 0) pa_nil)) pe_int (nomark _))))) (pss_one (ps_ret pe_bl)) pss_nil)
      (pss_cons (ps_if (PW.pt (pw_or (pt_not (pt_val (pe_callB (kisi (K := K)) (by rfl) T.z_isinstance (by decide +kernel) (pa_cons (pe_ix (kixt (K := K)) (pv 0) pe_int (fun _ _ => rfl)) (pa_cons (pe_bltn (v := .ty "str") (by rfl) T.z_str (by decide +kernel) rfl) pa_nil))))) (pw_or1 (pt_cmpR (kdnin T.kd_FORMS) (pe_ix (kixt (K := K)) (pv 0) pe_int (fun _ _ => rfl)) (pe_gc (v := .ref C_FORMS) (by rfl) ⟨_, T.g_FORMS, rfl⟩) (by rfl))))) (pss_one (ps_ret pe_bl)) pss_nil)
      (pss_cons (ps_set (i := 1) sc_is_letter.nd rfl (Or.inl rfl) (pe_ix ix_kdict (pe_gc (v := .ref C_FORMS) (by rfl) ⟨_, T.g_FORMS, rfl⟩) (pe_ix (kixt (K := K)) (pv 0) pe_int (fun _ _ => rfl)) (fun _ _ => rfl)))
      (pss_one (ps_ret (C8.pe_cv (i := 1) ca1 ca2 hr (by decide) (by decide) (by rfl) (by first | exact Or.inl rfl | exact Or.inr (Or.inl rfl) | exact Or.inr (Or.inr rfl)) (pa_cons (pe_slice sl_tupA (pv 0) (po_some pe_int) po_none) pa_nil))))))), ?_⟩
  walk_at "rds"
  refine ⟨_, .ty _, _, _, true, rfl, .ty _, ta.ty, kit_ty (by decide +kernel), ?_⟩
  walk_at "rds"
  refine ⟨a, _, rfl, .inr ta.sq, ?_⟩
  walk_at "rds"
  rcases hg with rfl | rfl
  · obtain ⟨_, _, _, l1, kl1, v1, r1⟩ := id k1
    refine ⟨a, _, 0, _, rfl, rfl, ta.sq, atI_nat (j := 0) rfl, ?_⟩
    walk_at "rds"
    refine ⟨_, .ty _, _, _, true, rfl, .ty _, .base (.str _), kit_ty (by decide +kernel), ?_⟩
    walk_at "rds"
    refine ⟨a, _, 0, _, rfl, rfl, ta.sq, atI_nat (j := 0) rfl, ?_⟩
    walk_at "rds"
    refine ⟨a, _, 0, _, rfl, rfl, ta.sq, atI_nat (j := 0) rfl, ?_⟩
    refine ⟨_, _, _, rfl, rfl, k1, ?_⟩
    walk_at "rds"
    refine .inl ⟨rfl, ?_⟩
    walk_at "rds"
    refine ⟨a, _, rfl, ta.sq, fun hw => absurd hw (show ¬ (HT.sIx 3 0 (some 1) = 0 ∧ HT.sIx 3 3 none = 3) by decide), fun _ p hp => ?_⟩
    refine ⟨p, i, z, rfl, .inl upd_same, i1, i2, pz, lz, fun H' s' => q _ ((same_upd hp).trans s')⟩
  · obtain ⟨_, _, _, l1, kl1, v1, r1⟩ := id k2
    refine ⟨a, _, 0, _, rfl, rfl, ta.sq, atI_nat (j := 0) rfl, ?_⟩
    walk_at "rds"
    refine ⟨_, .ty _, _, _, true, rfl, .ty _, .base (.str _), kit_ty (by decide +kernel), ?_⟩
    walk_at "rds"
    refine ⟨a, _, 0, _, rfl, rfl, ta.sq, atI_nat (j := 0) rfl, ?_⟩
    walk_at "rds"
    refine ⟨a, _, 0, _, rfl, rfl, ta.sq, atI_nat (j := 0) rfl, ?_⟩
    refine ⟨_, _, _, rfl, rfl, k2, ?_⟩
    walk_at "rds"
    refine .inr ⟨rfl, ?_⟩
    walk_at "rds"
    refine ⟨a, _, rfl, ta.sq, fun hw => absurd hw (show ¬ (HT.sIx 3 0 (some 1) = 0 ∧ HT.sIx 3 3 none = 3) by decide), fun _ p hp => ?_⟩
    refine ⟨p, i, z, rfl, .inl upd_same, i1, i2, pz, lz, fun H' s' => q _ ((same_upd hp).trans s')⟩
end

/-! ### the client -/
structure Pm where
  n : Nat
  ts : List Str
  ac : List (Int × Str × Str)
  an : List (Int × Str)
def accD (x : Int × Str × Str) : PyData := .tuple [.int x.1, .str x.2.1, .str x.2.2]
def cmdD (n : Int) (z : Str) : PyData := .tuple [.str "command", .int n, .str z]
def sndD (k : Int) (n : Int) (z : Str) : PyData := .tuple [.int k, cmdD n z]
def Pm.pend (m : Pm) : Option (Int × Str) := m.ts[m.ac.length]?.map fun z => ((m.ac.length : Int) + 1, z)
def lettersD (M : Nat) (n : Int) (z : Str) : List PyData := (List.range M).map fun (k : Nat) => sndD k n z
def Pm.tick (m : Pm) : List PyData := match m.pend with
  | none => []
  | some (n, z) => lettersD (3 * m.n + 1) n z
def Pm.recv (m : Pm) (sd : Int) (g : Str) (num : Int) (z : Str) : Pm × List PyData := match m.pend with
  | none => (m, [])
  | some (k, t) => if (0 ≤ sd ∧ sd ≤ 3 * (m.n : Int)) ∧ g = "answer" ∧ num = k ∧ gA m.an sd = none then
      (if (m.an ++ [(sd, z)]).countP (fun y => decide (y.2 = z)) < m.n + 1 then ({ m with an := m.an ++ [(sd, z)] }, [])
       else ({ m with ac := m.ac ++ [(k, t, z)], an := [] }, Pm.tick { m with ac := m.ac ++ [(k, t, z)], an := [] }))
    else (m, [])
/-- a text that may stand in the lists -/
def Tx (z : Str) : Prop := z.length ≤ 200 ∧ PyData.strOk z = true
/-- within bounds -/
structure Pm.ok (m : Pm) : Prop where
  n : m.n ≤ 10
  ts : m.ts.length ≤ 100
  ac : m.ac.length ≤ m.ts.length
  an : m.an.length ≤ 100
  kk : kOk m.an
  zt : ∀ z ∈ m.ts, Tx z
  za : ∀ x ∈ m.ac, Tx x.2.1 ∧ Tx x.2.2
  zn : ∀ x ∈ m.an, Tx x.2
def But (S : List Addr) (H H' : Hp) : Prop := ∀ b o, b ∉ S → H b = some o → H' b = some o
theorem But.trans {S : List Addr} {H H1 H2 : Hp} (a : But S H H1) (b : But S H1 H2) : But S H H2 := fun c o n h => b c o n (a c o n h)
theorem But.mono {S S' : List Addr} {H H1 : Hp} (a : But S H H1) (h : ∀ x ∈ S, x ∈ S') : But S' H H1 := fun c o n e => a c o (fun m => n (h _ m)) e
theorem Same.but {S : List Addr} {H H' : Hp} (s : Same H H') : But S H H' := fun b o _ h => s b o h
theorem but_upd {S : List Addr} {a : Addr} {o : HO} {H : Hp} (h : a ∈ S) : But S H (upd H a o) := fun b u n e => by
  rw [upd_ne (fun z => n (by rw [z]; exact h))]; exact e
/-- none of those in S holds a tuple -/
def NT (S : List Addr) (H : Hp) : Prop := ∀ a ∈ S, ∀ xs, H a ≠ some (.tup xs)
theorem But.tp {S : List Addr} {H H' : Hp} (b : But S H H') (d : NT S H) : Tp H H' := fun a xs e => b _ _ (fun m => d a m xs e) e
theorem acc_nl (l : List (Int × Str × Str)) : noLs (l.map accD) = true := noLs_all fun d h => by
  obtain ⟨x, _, rfl⟩ := List.mem_map.mp h; rfl
/-- nothing is gone -/
def Fr (H H' : Hp) : Prop := ∀ l, H' l = none → H l = none
theorem same_none {H H' : Hp} {a : Addr} (s : Same H H') (z : H' a = none) : H a = none := by
  cases e : H a with
  | none => rfl
  | some u => rw [s _ _ e] at z; cases z
theorem Fr.same {H H' : Hp} (s : Same H H') : Fr H H' := fun _ z => same_none s z
structure AcAt (K : PySem.W.Frag) (H : Hp) (A : Addr) (ac : List (Int × Str × Str)) (xs : List V) : Prop where
  at_ : H A = some (.lst xs)
  dt : DtAll K H none xs (ac.map accD)
theorem AcAt.keep {K : PySem.W.Frag} {H H' : Hp} {A : Addr} {ac : List (Int × Str × Str)} {xs : List V} (h : AcAt K H A ac xs) (e : H' A = H A) (t : Tp H H') : AcAt K H' A ac xs := ⟨by rw [e]; exact h.at_, DtAll.keep t _ _ (acc_nl _) h.dt⟩
def clF (g T A W : Addr) : List (Str × V) := putF "_answers" (.ref W) (putF "_accepted" (.ref A) (putF "_texts" (.ref T) (putF "_name" (.int (-5)) (putF "_group" (.ref g) []))))
structure ClAt (Cc Cg : Addr) (K : PySem.W.Frag) (H : Hp) (p g T A W : Addr) (m : Pm) (xs : List V) : Prop where
  ins : ∃ dx, H p = some (.ins Cc dx (clF g T A W))
  gr : GrAt Cg H g m.n
  tt : H T = some (.lst (m.ts.map V.str))
  aa : AcAt K H A m.ac xs
  ww : H W = some (.dK (kvs Sum.inl V.str m.an))
  ta : T ≠ A
  ok : m.ok
theorem ClAt.nt {Cc Cg p g T A W : Addr} {K : PySem.W.Frag} {H : Hp} {m : Pm} {xs : List V} (h : ClAt Cc Cg K H p g T A W m xs) : NT [p, T, A, W] H := fun a ha ys e => by
  obtain ⟨dx, e1⟩ := h.ins
  simp only [List.mem_cons, List.not_mem_nil, or_false] at ha
  rcases ha with rfl | rfl | rfl | rfl
  · rw [e1] at e; cases e
  · rw [h.tt] at e; cases e
  · rw [h.aa.at_] at e; cases e
  · rw [h.ww] at e; cases e
theorem ClAt.frame {Cc Cg p g T A W : Addr} {K : PySem.W.Frag} {S : List Addr} {H H' : Hp} {m : Pm} {xs : List V} (h : ClAt Cc Cg K H p g T A W m xs) (b : But S H H') (d : NT S H) (n : ∀ a ∈ [p, g, T, A, W], a ∉ S) : ClAt Cc Cg K H' p g T A W m xs :=
  { h with
    ins := h.ins.imp fun _ e => b _ _ (n _ (by simp)) e
    gr := h.gr.imp fun _ e => b _ _ (n _ (by simp)) e
    tt := b _ _ (n _ (by simp)) h.tt
    aa := h.aa.keep (by rw [h.aa.at_]; exact b _ _ (n _ (by simp)) h.aa.at_) (b.tp d)
    ww := b _ _ (n _ (by simp)) h.ww }
theorem ClAt.on {Cc Cg p g T A W : Addr} {K : PySem.W.Frag} {H H' : Hp} {m : Pm} {xs : List V} (h : ClAt Cc Cg K H p g T A W m xs) (s : Same H H') : ClAt Cc Cg K H' p g T A W m xs :=
  h.frame (S := []) (Same.but s) (fun _ m => nomatch m) (fun _ _ m => nomatch m)
def PendP (m : Pm) (H : Hp) (Q : VK) : Prop := match m.pend with
  | none => Q .non H
  | some (k, t) => ∀ u, H u = none → Q (.ref u) (upd H u (.tup [.int k, .str t]))
def spPend (Cc Cg : Addr) (K : PySem.W.Frag) : Sp := fun vs H Q _ => ∃ (p g T A W : Addr) (m : Pm) (xs : List V), vs = [.ref p] ∧ ClAt Cc Cg K H p g T A W m xs ∧ PendP m H Q
def spWait (Cc Cg : Addr) (K : PySem.W.Frag) : Sp := fun vs H Q _ => ∃ (p g T A W : Addr) (m : Pm) (xs : List V), vs = [.ref p] ∧ ClAt Cc Cg K H p g T A W m xs ∧ Q (.int ((m.ts.length : Int) - (m.ac.length : Int))) H
def spAcc (Cc Cg : Addr) (K : PySem.W.Frag) : Sp := fun vs H Q _ => ∃ (p g T A W : Addr) (m : Pm) (xs : List V), vs = [.ref p] ∧ ClAt Cc Cg K H p g T A W m xs ∧ ∀ l, H l = none → Q (.ref l) (upd H l (.lst xs))
def spTick (Cc Cg : Addr) (K : PySem.W.Frag) : Sp := fun vs H Q _ => ∃ (p g T A W : Addr) (m : Pm) (xs : List V), vs = [.ref p] ∧ ClAt Cc Cg K H p g T A W m xs ∧
  ∀ H' l ys, Same H H' → H l = none → H' l = some (.lst ys) → DtAll K H' none ys m.tick → Q (.ref l) H'
theorem Pm.pend_some {m : Pm} {k : Int} {t : Str} (h : m.pend = some (k, t)) : k = (m.ac.length : Int) + 1 ∧ m.ts[m.ac.length]? = some t ∧ m.ac.length < m.ts.length := by
  unfold Pm.pend at h
  cases g : m.ts[m.ac.length]? with
  | none => rw [g] at h; cases h
  | some z =>
    rw [g] at h
    have h := Option.some.inj h
    cases h
    exact ⟨rfl, rfl, (List.getElem?_eq_some_iff.mp g).1⟩
theorem Pm.pend_none {m : Pm} (h : m.pend = none) : m.ts.length ≤ m.ac.length := by
  unfold Pm.pend at h
  cases g : m.ts[m.ac.length]? with
  | none => exact List.getElem?_eq_none_iff.mp g
  | some z => rw [g] at h; cases h
section
variable {P : Program} {w : World} {K : PySem.W.Frag} {mg : Str → Option Value} {base : Heap}
theorem m_Client__pending {C_Client : Addr} {C_Group : Addr} {C_BadGroup : Addr} {C_FORMS : Addr} (T : Txt K mg w C_Client C_Group C_BadGroup C_FORMS) : Met P w K mg base 1 C_Client "pending" (spPend C_Client C_Group K) [] := by
  refine met T.cl_Client T.me_Client__pending sc_Client__pending (fun vs H Q E h => ?_) (fun f cdv A outer s H vs Q E hr h => ?_)
  · obtain ⟨p, g, T, A, W, m, xs, rfl, _⟩ := h; rfl
  obtain ⟨p, g, Ta, A, W, m, xs, rfl, cl, q⟩ := h
  obtain ⟨dx, gp⟩ := cl.ins
  have lac := cl.aa.dt.length
  rw [List.length_map] at lac
  refine ⟨_, (pss_cons (ps_set (i := 1) sc_Client__pending.nd rfl (Or.inl rfl) (pe_callB (klen (K := K)) (by rfl) T.z_len (by decide +kernel) (pa_cons (pe_fld (pv 0) rfl) pa_nil)))
      (pss_cons (ps_if (pt_cmpR op_eq (pv 1) (pe_callB (klen (K := K)) (by rfl) T.z_len (by decide +kernel) (pa_cons (pe_fld (pv 0) rfl) pa_nil)) (nomark _)) (pss_one (ps_ret pe_non)) pss_nil)
      (pss_one (ps_ret (pe_tup (pa_cons (pe_op op_add (pv 1) pe_int) (pa_cons (pe_ix (kixl (K := K)) (pe_fld (pv 0) rfl) (pv 1) (fun _ _ => rfl)) pa_nil))))))), ?_⟩
  walk_at "rds"
  refine ⟨p, _, dx, _, _, rfl, gp, T.cl_Client, T.na_Client__accepted, rfl, ?_⟩
  walk_at "rds"
  refine ⟨A, _, rfl, .inl (sq cl.aa.at_), ?_⟩
  rw [lac]
  walk_at "rds"
  refine ⟨p, _, dx, _, _, rfl, gp, T.cl_Client, T.na_Client__texts, rfl, ?_⟩
  walk_at "rds"
  refine ⟨Ta, _, rfl, .inl (sq cl.tt), ?_⟩
  rw [List.length_map]
  unfold PendP at q
  cases e : m.pend with
  | none =>
    rw [e] at q
    have := Pm.pend_none e
    have := cl.ok.ac
    walk_at "rds"
    refine ifT (decide_eq_true (congrArg V.int (by omega))) ?_
    walk_at "rds"
    exact q
  | some kt =>
    obtain ⟨k, t⟩ := kt
    rw [e] at q
    obtain ⟨rfl, gt, lt⟩ := Pm.pend_some e
    walk_at "rds"
    refine ifF (decide_eq_false (fun z => by have := V.int.inj z; omega)) ?_
    walk_at "rds"
    refine ⟨p, _, dx, _, _, rfl, gp, T.cl_Client, T.na_Client__texts, rfl, ?_⟩
    walk_at "rds"
    refine ⟨Ta, _, _, .str t, rfl, rfl, sq cl.tt, atI_nat (by rw [List.getElem?_map, gt]; rfl), ?_⟩
    walk_at "rds"
    exact q
theorem m_Client__waiting {C_Client : Addr} {C_Group : Addr} {C_BadGroup : Addr} {C_FORMS : Addr} (T : Txt K mg w C_Client C_Group C_BadGroup C_FORMS) : Met P w K mg base 1 C_Client "waiting" (spWait C_Client C_Group K) [] := by
  refine met T.cl_Client T.me_Client__waiting sc_Client__waiting (fun vs H Q E h => ?_) (fun f cdv A outer s H vs Q E hr h => ?_)
  · obtain ⟨p, g, T, A, W, m, xs, rfl, _⟩ := h; rfl
  obtain ⟨p, g, Ta, A, W, m, xs, rfl, cl, q⟩ := h
  obtain ⟨dx, gp⟩ := cl.ins
  have lac := cl.aa.dt.length
  rw [List.length_map] at lac
  refine ⟨_, (pss_one (ps_ret (pe_op op_sub (pe_callB (klen (K := K)) (by rfl) T.z_len (by decide +kernel) (pa_cons (pe_fld (pv 0) rfl) pa_nil)) (pe_callB (klen (K := K)) (by rfl) T.z_len (by decide +kernel) (pa_cons (pe_fld (pv 0) rfl) pa_nil))))), ?_⟩
  walk_at "rds"
  refine ⟨p, _, dx, _, _, rfl, gp, T.cl_Client, T.na_Client__texts, rfl, ?_⟩
  walk_at "rds"
  refine ⟨Ta, _, rfl, .inl (sq cl.tt), ?_⟩
  rw [List.length_map]
  walk_at "rds"
  refine ⟨p, _, dx, _, _, rfl, gp, T.cl_Client, T.na_Client__accepted, rfl, ?_⟩
  walk_at "rds"
  refine ⟨A, _, rfl, .inl (sq cl.aa.at_), ?_⟩
  rw [lac]
  walk_at "rds"
  exact q
theorem m_Client__accepted {C_Client : Addr} {C_Group : Addr} {C_BadGroup : Addr} {C_FORMS : Addr} (T : Txt K mg w C_Client C_Group C_BadGroup C_FORMS) : Met P w K mg base 1 C_Client "accepted" (spAcc C_Client C_Group K) [] := by
  refine met T.cl_Client T.me_Client__accepted sc_Client__accepted (fun vs H Q E h => ?_) (fun f cdv A outer s H vs Q E hr h => ?_)
  · obtain ⟨p, g, T, A, W, m, xs, rfl, _⟩ := h; rfl
  obtain ⟨p, g, Ta, A, W, m, xs, rfl, cl, q⟩ := h
  obtain ⟨dx, gp⟩ := cl.ins
  refine ⟨_, (pss_one (ps_ret (pe_callTy call_list_of (by rfl) T.z_list (by decide +kernel) (pa_cons (pe_fld (pv 0) rfl) pa_nil)))), ?_⟩
  walk_at "rds"
  refine ⟨p, _, dx, _, _, rfl, gp, T.cl_Client, T.na_Client__accepted, rfl, ?_⟩
  walk_at "rds"
  exact ⟨A, _, rfl, .inl (sq cl.aa.at_), q⟩
theorem m_Client__tick {C_Client : Addr} {C_Group : Addr} {C_BadGroup : Addr} {C_FORMS : Addr} (T : Txt K mg w C_Client C_Group C_BadGroup C_FORMS) : Met P w K mg base 2 C_Client "tick" (spTick C_Client C_Group K) [] := by
  have m_Group__members := m_Group__members (P := P) (w := w) (base := base) T
  have m_Client__pending := m_Client__pending (P := P) (w := w) (K := K) (base := base) T
  refine met T.cl_Client T.me_Client__tick sc_Client__tick (fun vs H Q E h => ?_) (fun f cdv A outer s H vs Q E hr h => ?_)
  · obtain ⟨p, g, T, A, W, m, xs, rfl, _⟩ := h; rfl
  obtain ⟨p, g, Ta, A, W, m, xs, rfl, cl, q⟩ := h
  obtain ⟨dx, gp⟩ := cl.ins
  refine ⟨_, (pss_cons (ps_set (i := 1) sc_Client__tick.nd rfl (Or.inl rfl) (pe_mt0 m_Client__pending hr (by decide) (pv 0)))
      (pss_cons (ps_if (pt_cmpR op_isN (pv 1) pe_non (nomark _)) (pss_one (ps_ret (pe_lst pa_nil))) pss_nil)
      (pss_cons (ps_asg (pv 1) (pg_tup (by rfl) (pgs_cons (pg_name (i := 2) sc_Client__tick.nd rfl (Or.inr rfl)) (pgs_cons (pg_name (i := 3) sc_Client__tick.nd rfl (Or.inr rfl)) pgs_nil))))
      (pss_one (ps_ret (pe_lc (own := [("machine", 4)]) (g := gName 4) (by rfl) sc_Client__tick.nd (pi_list (pe_mt0 m_Group__members hr (by decide) (pe_fld (pv 0) rfl))) (blkOk_by (own := [("machine", 4)]) (N := ["self", "pending", "number", "text", "machine"]) (sc := defScope s_Client__tick) (by decide +kernel)) (fun _ _ _ _ _ => pg_name (i := 4) sc_Client__tick.nd rfl (Or.inl rfl)) (fun _ _ _ _ _ => pts_nil) (fun _ _ _ _ _ => (pe_tup (pa_cons (pv 4) (pa_cons (pe_tup (pa_cons pe_str (pa_cons (pv 2) (pa_cons (pv 3) pa_nil)))) pa_nil)))))))))), ?_⟩
  walk_at "rds"
  refine ⟨p, dx, _, rfl, gp, rfl, ?_⟩
  walk_at "rds"
  refine ⟨p, g, Ta, A, W, m, xs, rfl, cl, ?_⟩
  unfold PendP
  cases e : m.pend with
  | none =>
    walk_at "rds"
    intro l hl
    refine q _ l [] (same_upd hl) hl upd_same ?_
    unfold Pm.tick
    rw [e]
    exact .nil
  | some kt =>
    obtain ⟨k, t⟩ := kt
    intro u hu
    obtain ⟨rfl, gt, lt⟩ := Pm.pend_some e
    have s1 := same_upd (o := .tup [.int ((m.ac.length : Int) + 1), .str t]) hu
    have eu : upd H u (.tup [.int ((m.ac.length : Int) + 1), .str t]) u = some (.tup [.int ((m.ac.length : Int) + 1), .str t]) := upd_same
    have lz := cl.ok.zt _ (List.mem_of_getElem? gt)
    have cl := cl.on s1
    generalize upd H u (.tup [V.int ((m.ac.length : Int) + 1), .str t]) = H1 at s1 eu cl
    obtain ⟨dx1, gp⟩ := cl.ins
    obtain ⟨dg, gg⟩ := id cl.gr
    walk_at "rds"
    refine ⟨u, [.int ((m.ac.length : Int) + 1), .str t], rfl, (show TupAt K H1 u _ from .inl eu).sq, rfl, ?_⟩
    refine ⟨_, _, rfl, ?_⟩
    walk_at "rds"
    refine ⟨_, _, rfl, ?_⟩
    walk_at "rds"
    refine ⟨rfl, ?_⟩
    walk_at "rds"
    refine ⟨p, _, dx1, _, _, rfl, gp, T.cl_Client, T.na_Client__group, rfl, ?_⟩
    refine ⟨g, dg, _, rfl, gg, rfl, ?_⟩
    walk_at "rds"
    refine ⟨g, m.n, rfl, cl.gr, by omega, by have := cl.ok.n; omega, fun l hl => ?_⟩
    have s2 := s1.trans (same_upd (o := .lst (rgV 0 (3 * (m.n : Int) + 1))) hl)
    have el : upd H1 l (.lst (rgV 0 (3 * (m.n : Int) + 1))) l = some (.lst (rgV 0 (3 * (m.n : Int) + 1))) := upd_same
    generalize upd H1 l (.lst (rgV 0 (3 * (m.n : Int) + 1))) = H2 at s2 el
    have hn := cl.ok.n
    walk_at "rds"
    refine ⟨⟨_, sq el⟩, fun D hD => ?_⟩
    refine lc_it (walk_list (K := K) (a := l) (xs := rgV 0 (3 * (m.n : Int) + 1))) (Pv := fun i H' => ∃ ys, Same H2 H' ∧ H' D = some (.lst ys) ∧ DtAll K H' none ys (lettersD i ((m.ac.length : Int) + 1) t)) ⟨[], same_upd hD, upd_same, .nil⟩ (fun _ _ _ h => by obtain ⟨_, h, _⟩ := h; exact sq (h _ _ el)) (fun j x H3 H4 hj hp hy => ?_) (fun H3 hp => ?_)
    · obtain ⟨ys, s3, e3, d3⟩ := hp
      obtain ⟨rfl, gx⟩ := hy
      rw [rgV_length] at hj
      obtain rfl : x = V.int (j : Int) := by
        unfold rgV at gx
        rw [List.getElem?_map, List.getElem?_range hj] at gx
        exact (Option.some.inj gx).symm.trans (congrArg V.int (Int.zero_add _))
      have ly : ys.length = j := by rw [d3.length]; unfold lettersD; rw [List.length_map, List.length_range]
      refine ⟨rfl, ?_⟩
      walk_at "rds"
      intro t1 ht1
      have s4 := same_upd (o := .tup [.str "command", .int ((m.ac.length : Int) + 1), .str t]) ht1
      have d4 : Dt K (upd H4 t1 (.tup [.str "command", .int ((m.ac.length : Int) + 1), .str t])) none (.ref t1) (cmdD ((m.ac.length : Int) + 1) t) := .tup (.inl upd_same) (.cons (.str _ (by decide)) (.cons (.int _) (.cons (.str _ (Nat.le_trans lz.1 (by decide))) .nil)))
      generalize upd H4 t1 (.tup [V.str "command", .int ((m.ac.length : Int) + 1), .str t]) = H5 at s4 d4
      walk_at "rds"
      intro t2 ht2
      have s5 := s4.trans (same_upd (o := .tup [.int (j : Int), .ref t1]) ht2)
      have d5 : Dt K (upd H5 t2 (.tup [.int (j : Int), .ref t1])) none (.ref t2) (sndD j ((m.ac.length : Int) + 1) t) := .tup (.inl upd_same) (.cons (.int _) (.cons (d4.on (same_upd ht2)) .nil))
      generalize upd H5 t2 (.tup [V.int (j : Int), .ref t1]) = H6 at s5 d5
      have e6 := s5 _ _ e3
      have nl : noLs (lettersD j ((m.ac.length : Int) + 1) t) = true := noLs_all fun d hd => by
        obtain ⟨_, _, rfl⟩ := List.mem_map.mp hd; rfl
      refine ⟨ys, e6, sz1000' (by omega), ys ++ [.ref t2], same_mut (s3.trans s5) hD, upd_same, ?_⟩
      have el : lettersD (j + 1) ((m.ac.length : Int) + 1) t = lettersD j ((m.ac.length : Int) + 1) t ++ [sndD j ((m.ac.length : Int) + 1) t] := by
        unfold lettersD; rw [List.range_succ, List.map_append]; rfl
      rw [el]
      exact DtAll.keep (A := none) (tp_put e6) _ _ (noLs_app nl rfl) ((d3.on s5).snoc d5)
    · obtain ⟨ys, s3, e3, d3⟩ := hp
      rw [rgV_length, show (3 * (m.n : Int) + 1 - 0).toNat = 3 * m.n + 1 by omega] at d3
      refine q _ D ys (s2.trans s3) (same_none s2 hD) e3 ?_
      unfold Pm.tick
      rw [e]
      exact d3
end
/-! ### the client changes -/
theorem ne_kind {H : Hp} {a b : Addr} {o u : HO} (e : H a = some o) (f : H b = some u) (n : o ≠ u) : a ≠ b := fun z => by
  rw [z, f] at e; exact n (Option.some.inj e).symm
theorem ClAt.parts {Cc Cg p g T A W : Addr} {K : PySem.W.Frag} {H : Hp} {m : Pm} {xs : List V} (h : ClAt Cc Cg K H p g T A W m xs) : p ≠ T ∧ p ≠ A ∧ p ≠ W ∧ g ≠ T ∧ g ≠ A ∧ g ≠ W ∧ T ≠ W ∧ A ≠ W := by
  obtain ⟨dx, e1⟩ := h.ins
  obtain ⟨dg, e2⟩ := h.gr
  exact ⟨ne_kind e1 h.tt (by intro z; cases z), ne_kind e1 h.aa.at_ (by intro z; cases z), ne_kind e1 h.ww (by intro z; cases z), ne_kind e2 h.tt (by intro z; cases z), ne_kind e2 h.aa.at_ (by intro z; cases z), ne_kind e2 h.ww (by intro z; cases z), ne_kind h.tt h.ww (by intro z; cases z), ne_kind h.aa.at_ h.ww (by intro z; cases z)⟩
theorem tp_upd {H : Hp} {a : Addr} {o u : HO} (e : H a = some u) (n : ∀ xs, u ≠ .tup xs) : Tp H (upd H a o) := fun b xs f => by
  rw [upd_ne (ne_kind f e (fun z => n xs z.symm))]; exact f
theorem pA_new {ks : List (Int × Str)} {c : Int} {x : Str} (h : gA ks c = none) : pA ks c x = ks ++ [(c, x)] := by
  unfold pA
  rw [if_neg (by intro z; exact gA_none.mp h (by simpa using z))]
theorem ClAt.addT {Cc Cg p g T A W : Addr} {K : PySem.W.Frag} {H : Hp} {m : Pm} {xs : List V} {z : Str} (h : ClAt Cc Cg K H p g T A W m xs) (hl : m.ts.length < 100) (hz : Tx z) :
    ClAt Cc Cg K (upd H T (.lst (m.ts.map V.str ++ [.str z]))) p g T A W { m with ts := m.ts ++ [z] } xs := by
  obtain ⟨a1, a2, a3, a4, a5, a6, a7, a8⟩ := h.parts
  have tp := tp_upd (o := .lst (m.ts.map V.str ++ [.str z])) h.tt (by intro _ z; cases z)
  have ok := h.ok
  exact
    { ins := h.ins.imp fun _ e => by rw [upd_ne a1]; exact e
      gr := h.gr.imp fun _ e => by rw [upd_ne a4]; exact e
      tt := by rw [upd_same, List.map_append]; rfl
      aa := h.aa.keep (upd_ne h.ta.symm) tp
      ww := by rw [upd_ne a7.symm]; exact h.ww
      ta := h.ta
      ok := { ok with
        ts := by rw [List.length_append]; exact hl
        ac := by rw [List.length_append]; exact Nat.le_succ_of_le ok.ac
        zt := fun y my => by
          rcases List.mem_append.mp my with my | my
          · exact ok.zt y my
          · rw [List.mem_singleton.mp my]; exact hz } }
theorem ClAt.addA {Cc Cg p g T A W : Addr} {K : PySem.W.Frag} {H : Hp} {m : Pm} {xs : List V} {v : V} {x : Int × Str × Str} (h : ClAt Cc Cg K H p g T A W m xs) (hv : Dt K H none v (accD x)) (hl : m.ac.length < m.ts.length) (hx : Tx x.2.1 ∧ Tx x.2.2) :
    ClAt Cc Cg K (upd H A (.lst (xs ++ [v]))) p g T A W { m with ac := m.ac ++ [x] } (xs ++ [v]) := by
  obtain ⟨a1, a2, a3, a4, a5, a6, a7, a8⟩ := h.parts
  have tp := tp_upd (o := .lst (xs ++ [v])) h.aa.at_ (by intro _ z; cases z)
  have ok := h.ok
  exact
    { ins := h.ins.imp fun _ e => by rw [upd_ne a2]; exact e
      gr := h.gr.imp fun _ e => by rw [upd_ne a5]; exact e
      tt := by rw [upd_ne h.ta]; exact h.tt
      aa := ⟨upd_same, by rw [List.map_append]; exact DtAll.keep (A := none) tp _ _ (noLs_app (acc_nl _) rfl) (h.aa.dt.snoc hv)⟩
      ww := by rw [upd_ne a8.symm]; exact h.ww
      ta := h.ta
      ok := { ok with
        ac := by rw [List.length_append]; exact hl
        za := fun y my => by
          rcases List.mem_append.mp my with my | my
          · exact ok.za y my
          · rw [List.mem_singleton.mp my]; exact hx } }
theorem ClAt.putW {Cc Cg p g T A W : Addr} {K : PySem.W.Frag} {H : Hp} {m : Pm} {xs : List V} {sd : Int} {z : Str} (h : ClAt Cc Cg K H p g T A W m xs) (gn : gA m.an sd = none) (hl : m.an.length < 100) (hz : Tx z) :
    ClAt Cc Cg K (upd H W (.dK (putK (kvs Sum.inl V.str m.an) (Sum.inl sd) (.str z)))) p g T A W { m with an := m.an ++ [(sd, z)] } xs := by
  obtain ⟨a1, a2, a3, a4, a5, a6, a7, a8⟩ := h.parts
  have tp := tp_upd (o := .dK (putK (kvs Sum.inl V.str m.an) (Sum.inl sd) (.str z))) h.ww (by intro _ z; cases z)
  have ok := h.ok
  have e1 : pA m.an sd z = m.an ++ [(sd, z)] := pA_new gn
  exact
    { ins := h.ins.imp fun _ e => by rw [upd_ne a3]; exact e
      gr := h.gr.imp fun _ e => by rw [upd_ne a6]; exact e
      tt := by rw [upd_ne a7]; exact h.tt
      aa := h.aa.keep (upd_ne a8) tp
      ww := by rw [upd_same, pA_kvs inlI V.str m.an sd z, e1]
      ta := h.ta
      ok := { ok with
        an := by rw [List.length_append]; exact hl
        kk := by have := pA_ok sd z ok.kk; rw [e1] at this; exact this
        zn := fun y my => by
          rcases List.mem_append.mp my with my | my
          · exact ok.zn y my
          · rw [List.mem_singleton.mp my]; exact hz } }
theorem ClAt.newW {Cc Cg p g T A W W' : Addr} {K : PySem.W.Frag} {H : Hp} {m : Pm} {xs : List V} {dx : Addr} (h : ClAt Cc Cg K H p g T A W m xs) (e : H p = some (.ins Cc dx (clF g T A W))) (hw : H W' = some (.dK [])) :
    ClAt Cc Cg K (upd H p (.ins Cc dx (clF g T A W'))) p g T A W' { m with an := [] } xs := by
  obtain ⟨a1, a2, a3, a4, a5, a6, a7, a8⟩ := h.parts
  have tp := tp_upd (o := .ins Cc dx (clF g T A W')) e (by intro _ z; cases z)
  have ok := h.ok
  have gp : g ≠ p := fun z => by
    obtain ⟨dg, eg⟩ := h.gr
    rw [z, e] at eg
    have := Option.some.inj eg
    injection this with _ _ this
    revert this
    unfold clF gF
    intro this
    injection this with this _
    injection this with this _
    exact absurd this (by decide)
  exact
    { ins := ⟨dx, upd_same⟩
      gr := h.gr.imp fun _ e => by rw [upd_ne gp]; exact e
      tt := by rw [upd_ne a1.symm]; exact h.tt
      aa := h.aa.keep (upd_ne a2.symm) tp
      ww := by rw [upd_ne (ne_kind hw e (by intro z; cases z))]; exact hw
      ta := h.ta
      ok := { ok with an := Nat.zero_le _, kk := List.nodup_nil, zn := fun _ m => nomatch m } }
def Pm.subm (m : Pm) (z : Str) : List PyData := if (m.ts.length : Int) + 1 - (m.ac.length : Int) > 1 then [] else Pm.tick { m with ts := m.ts ++ [z] }
def spSubm (Cc Cg : Addr) (K : PySem.W.Frag) : Sp := fun vs H Q _ => ∃ (p g T A W : Addr) (m : Pm) (xs : List V) (z : Str), vs = [.ref p, .str z] ∧ ClAt Cc Cg K H p g T A W m xs ∧ m.ts.length < 100 ∧ Tx z ∧
  ∀ H' l ys, But [T] H H' → ClAt Cc Cg K H' p g T A W { m with ts := m.ts ++ [z] } xs → H l = none → H' l = some (.lst ys) → DtAll K H' none ys (m.subm z) → Q (.ref l) H'
def spRecv (Cc Cg : Addr) (K : PySem.W.Frag) : Sp := fun vs H Q _ => ∃ (p g T A W : Addr) (m : Pm) (xs : List V) (a : Addr) (sd : Int) (tag : Str) (num : Int) (z : Str), vs = [.ref p, .int sd, .ref a] ∧ ClAt Cc Cg K H p g T A W m xs ∧
  TupAt K H a [.str tag, .int num, .str z] ∧ (tag = "answer" ∨ tag = "command") ∧ 1 ≤ num ∧ num ≤ 1000 ∧ isPr z = true ∧ Tx z ∧ m.an.length < 100 ∧
  ∀ H' l ys W' xs', But [p, A, W] H H' → Fr H H' → (W' = W ∨ H W' = none) → ClAt Cc Cg K H' p g T A W' (m.recv sd tag num z).1 xs' → H l = none → H' l = some (.lst ys) → DtAll K H' none ys (m.recv sd tag num z).2 → Q (.ref l) H'
theorem pairD_eqv (a b : Str) (i j : Int) : PyData.eqv (.tuple [.str a, .int i]) (.tuple [.str b, .int j]) = (decide (a = b) && decide (i = j)) := by
  simp only [PyData.eqv, PyData.eqvAll, Bool.and_true]
  by_cases h : a = b <;> by_cases h2 : i = j <;> simp [h, h2]
theorem pairD_shp (a : Str) (i : Int) (h : PyData.strOk a = true) : SeqAt.shaped (.tuple [.str a, .int i]) = true := (shpL ((ly_tup (k := 1) (ly_cons (ly_str h) (ly_cons (ly_int i) ly_nil))).mono (by decide))).1
theorem strs_dt {K : PySem.W.Frag} {H : Hp} {A : Option Addr} : ∀ {an : List (Int × Str)}, (∀ x ∈ an, Tx x.2) → DtAll K H A (an.map fun y => V.str y.2) (an.map fun y => PyData.str y.2)
  | [], _ => .nil
  | y :: r, h => .cons (.str _ (Nat.le_trans (h y List.mem_cons_self).1 (by decide))) (strs_dt fun x m => h x (List.mem_cons_of_mem _ m))
theorem strs_shp {an : List (Int × Str)} (h : ∀ x ∈ an, Tx x.2) : SeqAt.shaped (.list (an.map fun y => PyData.str y.2)) = true := (shpL ((ly_lst (k := 1) fun d hd => by
  obtain ⟨x, m, rfl⟩ := List.mem_map.mp hd
  exact ly_str (h x m).2).mono (by decide))).1
theorem strs_cnt (an : List (Int × Str)) (z : Str) : (an.map fun y => PyData.str y.2).countP (fun d => PyData.eqv d (.str z)) = an.countP fun y => decide (y.2 = z) := by
  rw [List.countP_map]
  refine List.countP_congr fun y _ => ?_
  show PyData.eqv (.str y.2) (.str z) = true ↔ decide (y.2 = z) = true
  simp [PyData.eqv]
theorem upd_none {H : Hp} {a b : Addr} {o u : HO} (e : H a = some u) (z : upd H a o b = none) : H b = none := by
  by_cases h : b = a
  · rw [h, upd_same] at z; cases z
  · rw [upd_ne h] at z; exact z
section
variable {P : Program} {w : World} {K : PySem.W.Frag} {mg : Str → Option Value} {base : Heap}
theorem m_Client__submit {C_Client : Addr} {C_Group : Addr} {C_BadGroup : Addr} {C_FORMS : Addr} (T : Txt K mg w C_Client C_Group C_BadGroup C_FORMS) : Met P w K mg base 3 C_Client "submit" (spSubm C_Client C_Group K) [] := by
  have m_Client__waiting := m_Client__waiting (P := P) (w := w) (K := K) (base := base) T
  have m_Client__tick := m_Client__tick (P := P) (w := w) (K := K) (base := base) T
  refine met T.cl_Client T.me_Client__submit sc_Client__submit (fun vs H Q E h => ?_) (fun f cdv A outer s H vs Q E hr h => ?_)
  · obtain ⟨p, g, T, A, W, m, xs, z, rfl, _⟩ := h; rfl
  obtain ⟨p, g, Ta, A, W, m, xs, z, rfl, cl, hl, hz, q⟩ := h
  obtain ⟨dx, gp⟩ := cl.ins
  refine ⟨_, (pss_cons (ps_expr (pe_bm PySem.F.plainAttrs_list PySem.F.slot_list_append PySem.F.type_list_append mt_append (pe_fld (pv 0) rfl) (pa_cons (pv 1) pa_nil)))
      (pss_cons (ps_if (pt_cmpR op_gt (pe_mt0 m_Client__waiting hr (by decide) (pv 0)) pe_int (nomark _)) (pss_one (ps_ret (pe_lst pa_nil))) pss_nil)
      (pss_one (ps_ret (pe_mt0 m_Client__tick hr (by decide) (pv 0)))))), ?_⟩
  walk_at "rds"
  refine ⟨p, _, dx, _, _, rfl, gp, T.cl_Client, T.na_Client__texts, rfl, ?_⟩
  walk_at "rds"
  refine ⟨.inl ⟨rfl, _, sq cl.tt⟩, ?_⟩
  walk_at "rds"
  refine ⟨Ta, _, .str z, rfl, rfl, cl.tt, sz1000' (by rw [List.length_map]; omega), ?_⟩
  have bt : But [Ta] H (upd H Ta (.lst (m.ts.map V.str ++ [.str z]))) := but_upd (by simp)
  have cl2 := cl.addT hl hz
  have fr : ∀ {l}, upd H Ta (.lst (m.ts.map V.str ++ [.str z])) l = none → H l = none := fun z => upd_none cl.tt z
  generalize upd H Ta (HO.lst (m.ts.map V.str ++ [.str z])) = H1 at bt cl2 fr
  obtain ⟨dx1, gp1⟩ := cl2.ins
  walk_at "rds"
  refine ⟨p, dx1, _, rfl, gp1, rfl, ?_⟩
  walk_at "rds"
  refine ⟨p, g, Ta, A, W, _, xs, rfl, cl2, ?_⟩
  have e1 : (({ m with ts := m.ts ++ [z] } : Pm).ts.length : Int) - (({ m with ts := m.ts ++ [z] } : Pm).ac.length : Int) = (m.ts.length : Int) + 1 - (m.ac.length : Int) := by
    show ((m.ts ++ [z]).length : Int) - (m.ac.length : Int) = _
    rw [List.length_append, List.length_singleton]; omega
  rw [e1]
  walk_at "rds"
  refine ite2 (fun e => ?_) (fun e => ?_)
  · have e : 1 < (m.ts.length : Int) + 1 - (m.ac.length : Int) := of_decide_eq_true e
    walk_at "rds"
    intro l hl
    refine q _ l [] (bt.trans (Same.but (same_upd hl))) (cl2.on (same_upd hl)) (fr hl) upd_same ?_
    unfold Pm.subm
    rw [if_pos (by omega)]
    exact .nil
  · have e : ¬ 1 < (m.ts.length : Int) + 1 - (m.ac.length : Int) := fun z => e (decide_eq_true z)
    walk_at "rds"
    refine ⟨p, dx1, _, rfl, gp1, rfl, ?_⟩
    walk_at "rds"
    refine ⟨p, g, Ta, A, W, _, xs, rfl, cl2, fun H' l ys s' hl' el dl => ?_⟩
    refine q _ l ys (bt.trans (Same.but s')) (cl2.on s') (fr hl') el ?_
    unfold Pm.subm
    rw [if_neg (by omega)]
    exact dl
theorem m_Client__receive {C_Client : Addr} {C_Group : Addr} {C_BadGroup : Addr} {C_FORMS : Addr} (T : Txt K mg w C_Client C_Group C_BadGroup C_FORMS) : Met P w K mg base 5 C_Client "receive" (spRecv C_Client C_Group K) [] := by
  have m_Client__pending := m_Client__pending (P := P) (w := w) (K := K) (base := base) T
  have m_Client__tick := m_Client__tick (P := P) (w := w) (K := K) (base := base) T
  have m_Group__is_member := m_Group__is_member (P := P) (w := w) (K := K) (base := base) T
  have c_is_letter := c_is_letter (P := P) (w := w) (K := K) (base := base) T
  refine met T.cl_Client T.me_Client__receive sc_Client__receive (fun vs H Q E h => ?_) (fun f cdv A outer s H vs Q E hr h => ?_)
  · obtain ⟨p, g, T, A, W, m, xs, a, sd, tag, num, z, rfl, _⟩ := h; rfl
  obtain ⟨p, g, Ta, A, W, m, xs, a, sd, tag, num, z, rfl, cl, ha, htag, n1, n2, pz, lz, lan, q⟩ := h
  obtain ⟨dx, gp⟩ := cl.ins
  refine ⟨_, (pss_cons (ps_set (i := 3) sc_Client__receive.nd rfl (Or.inl rfl) (pe_mt0 m_Client__pending hr (by decide) (pv 0)))
      (pss_cons (ps_if (PW.pt (pw_or (pt_cmpR op_isN (pv 3) pe_non (nomark _)) (pw_or (pt_not (pt_val (pe_mt m_Group__is_member hr (by decide) (pe_fld (pv 0) rfl) (pa_cons (pv 1) pa_nil)))) (pw_or1 (pt_not (pt_val (pe_c c_is_letter hr (by decide) (by rfl) (pa_cons (pv 2) pa_nil)))))))) (pss_one (ps_ret (pe_lst pa_nil))) pss_nil)
      (pss_cons (ps_if (PW.pt (pw_or (pt_cmpR (op_neD hr.units) (pe_slice sl_tupA (pv 2) po_none (po_some pe_int)) (pe_tup (pa_cons pe_str (pa_cons (pe_ix (kixt (K := K)) (pv 3) pe_int (fun _ _ => rfl)) pa_nil))) (nomark _)) (pw_or1 (pt_cmp (pc_din (by exact hu_of hr) (pv 1) (pe_fld (pv 0) rfl)))))) (pss_one (ps_ret (pe_lst pa_nil))) pss_nil)
      (pss_cons (ps_set (i := 4) sc_Client__receive.nd rfl (Or.inl rfl) (pe_ix (kixt (K := K)) (pv 2) pe_int (fun _ _ => rfl)))
      (pss_cons (ps_dput (hu_of hr) (pe_fld (pv 0) rfl) (pv 1) (pv 4) rfl)
      (pss_cons (ps_if (pt_cmpR op_lt (pe_bm PySem.F.plainAttrs_list PySem.F.slot_list_count PySem.F.type_list_count (mt_lcountD (by exact hu65 hr)) (pe_callTy (call_listVals rfl) (by rfl) T.z_list (by decide +kernel) (pa_cons (pe_bm0 PySem.F.plainAttrs_dict PySem.F.slot_dict_values PySem.F.type_dict_values mt_dvals (pe_fld (pv 0) rfl)) pa_nil)) (pa_cons (pv 4) pa_nil)) (pe_fld (pe_fld (pv 0) rfl) rfl) (nomark _)) (pss_one (ps_ret (pe_lst pa_nil))) pss_nil)
      (pss_cons (ps_expr (pe_bm PySem.F.plainAttrs_list PySem.F.slot_list_append PySem.F.type_list_append mt_append (pe_fld (pv 0) rfl) (pa_cons (pe_tup (pa_cons (pe_ix (kixt (K := K)) (pv 3) pe_int (fun _ _ => rfl)) (pa_cons (pe_ix (kixt (K := K)) (pv 3) pe_int (fun _ _ => rfl)) (pa_cons (pv 4) pa_nil)))) pa_nil)))
      (pss_cons (ps_fld (pv 0) pe_dnewK rfl)
      (pss_one (ps_ret (pe_mt0 m_Client__tick hr (by decide) (pv 0)))))))))))), ?_⟩
  walk_at "rds"
  refine ⟨p, dx, _, rfl, gp, rfl, ?_⟩
  walk_at "rds"
  refine ⟨p, g, Ta, A, W, m, xs, rfl, cl, ?_⟩
  have nil : ∀ {H2 : Hp}, Same H H2 → m.recv sd tag num z = (m, []) → ∀ l, H2 l = none → Q (.ref l) (upd H2 l (.lst [])) := fun {H2} s2 er l hl => by
    refine q _ l [] W xs (Same.but (s2.trans (same_upd hl))) (Fr.same (s2.trans (same_upd hl))) (.inl rfl) ?_ (same_none s2 hl) upd_same ?_
    · rw [er]; exact cl.on (s2.trans (same_upd hl))
    · rw [er]; exact .nil
  unfold PendP
  cases ep : m.pend with
  | none =>
    have er : m.recv sd tag num z = (m, []) := by unfold Pm.recv; rw [ep]
    walk_at "rds"
    exact nil (Same.refl _) er
  | some kt =>
    obtain ⟨k, t⟩ := kt
    intro u hu
    obtain ⟨ek, gt, lt⟩ := Pm.pend_some ep
    have s1 := same_upd (o := .tup [.int k, .str t]) hu
    have eu : TupAt K (upd H u (.tup [.int k, .str t])) u [.int k, .str t] := .inl upd_same
    have lzt := cl.ok.zt _ (List.mem_of_getElem? gt)
    have cl1 := cl.on s1
    have ha1 := ha.same s1
    generalize upd H u (.tup [V.int k, .str t]) = H1 at s1 eu cl1 ha1
    obtain ⟨dx1, gp1⟩ := cl1.ins
    obtain ⟨dg, gg⟩ := id cl1.gr
    walk_at "rds"
    refine ⟨p, _, dx1, _, _, rfl, gp1, T.cl_Client, T.na_Client__group, rfl, ?_⟩
    refine ⟨g, dg, _, rfl, gg, rfl, ?_⟩
    walk_at "rds"
    refine ⟨g, m.n, .int sd, rfl, cl1.gr, .inl ⟨sd, rfl, ?_⟩⟩
    by_cases hs : 0 ≤ sd ∧ sd ≤ 3 * (m.n : Int)
    · have e1 : decide (0 ≤ sd ∧ sd ≤ 3 * (m.n : Int) + 1 - 1) = true := decide_eq_true (by omega)
      rw [e1]
      walk_at "rds"
      refine ⟨a, tag, num, z, rfl, ha1, htag, n1, n2, pz, lz.1, fun H2 s2 => ?_⟩
      walk_at "rds"
      have s12 := s1.trans s2
      have cl2 := cl.on s12
      have ha2 := ha.same s12
      have eu2 := eu.same s2
      refine ⟨a, _, rfl, ha2.sq, fun hw => absurd hw (show ¬ (HT.sIx 3 0 none = 0 ∧ HT.sIx 3 3 (some 2) = 3) by decide), fun _ b hb => ?_⟩
      have s3 := same_upd (o := .tup (cutV [.str tag, .int num, .str z] none (some 2))) hb
      have eb : TupAt K (upd H2 b (.tup (cutV [.str tag, .int num, .str z] none (some 2)))) b [.str tag, .int num] := .inl upd_same
      generalize upd H2 b (.tup (cutV [V.str tag, .int num, .str z] none (some 2))) = H3 at s3 eb
      have eu3 := eu2.same s3
      walk_at "rds"
      refine ⟨u, _, 0, _, rfl, rfl, eu3.sq, atI_nat (j := 0) rfl, ?_⟩
      walk_at "rds"
      intro c hc
      have s4 := same_upd (o := .tup [.str "answer", .int k]) hc
      have ec : TupAt K (upd H3 c (.tup [.str "answer", .int k])) c [.str "answer", .int k] := .inl upd_same
      generalize upd H3 c (.tup [V.str "answer", .int k]) = H4 at s4 ec
      have eb4 := eb.same s4
      have eu4 := eu3.same s4
      have s14 := s12.trans (s3.trans s4)
      have ltag : tag.length ≤ 1000000 ∧ PyData.strOk tag = true := by rcases htag with rfl | rfl <;> exact ⟨by decide, by decide +kernel⟩
      refine ⟨.tuple [.str tag, .int num], .tuple [.str "answer", .int k], Dt.dp _ _ (.tup (A := none) eb4 (.cons (.str _ ltag.1) (.cons (.int _) .nil))), Dt.dp _ _ (.tup (A := none) ec (.cons (.str _ (by decide)) (.cons (.int _) .nil))), pairD_shp _ _ ltag.2, pairD_shp _ _ (by decide +kernel), ?_⟩
      rw [pairD_eqv]
      refine ⟨_, rfl, ?_⟩
      by_cases hq : tag = "answer" ∧ num = k
      · refine ifF (by rw [decide_eq_true hq.1, decide_eq_true hq.2]; rfl) ?_
        have cl4 := cl.on s14
        obtain ⟨dx4, gp4⟩ := cl4.ins
        walk_at "rds"
        refine ⟨p, _, dx4, _, _, rfl, gp4, T.cl_Client, T.na_Client__answers, rfl, ?_⟩
        refine ⟨W, _, rfl, DGet.k (k := Sum.inl sd) cl4.ww, ?_⟩
        rw [gA_kvs inlI]
        cases ga : gA m.an sd with
        | some y =>
          have er : m.recv sd tag num z = (m, []) := by unfold Pm.recv; rw [ep]; exact if_neg (fun q => by rw [ga] at q; cases q.2.2.2)
          walk_at "rds"
          exact nil s14 er
        | none =>
          have ha4 := ha.same s14
          have er0 : m.recv sd tag num z = (if (m.an ++ [(sd, z)]).countP (fun y => decide (y.2 = z)) < m.n + 1 then ({ m with an := m.an ++ [(sd, z)] }, []) else ({ m with ac := m.ac ++ [(k, t, z)], an := [] }, Pm.tick { m with ac := m.ac ++ [(k, t, z)], an := [] })) := by
            unfold Pm.recv; rw [ep]; exact if_pos ⟨hs, hq.1, hq.2, ga⟩
          walk_at "rds"
          refine ⟨a, _, 2, _, rfl, rfl, ha4.sq, atI_nat (j := 2) rfl, ?_⟩
          walk_at "rds"
          refine ⟨p, _, dx4, _, _, rfl, gp4, T.cl_Client, T.na_Client__answers, rfl, ?_⟩
          walk_at "rds"
          refine ⟨W, _, rfl, DPut.k (k := Sum.inl sd) cl4.ww (by rw [kvs_len]; exact sz1000' (by omega)), ?_⟩
          have cl5 := cl4.putW ga lan lz
          have bt5 : But [p, A, W] H (upd H4 W (.dK (putK (kvs Sum.inl V.str m.an) (Sum.inl sd) (.str z)))) := (Same.but s14).trans (but_upd (by simp))
          have fr5 : ∀ {l}, upd H4 W (.dK (putK (kvs Sum.inl V.str m.an) (Sum.inl sd) (.str z))) l = none → H l = none := fun q => same_none s14 (upd_none cl4.ww q)
          have eu5 : TupAt K (upd H4 W (.dK (putK (kvs Sum.inl V.str m.an) (Sum.inl sd) (.str z)))) u [.int k, .str t] := eu4.tp (tp_upd cl4.ww (by intro _ z; cases z))
          generalize upd H4 W (.dK (putK (kvs Sum.inl V.str m.an) (Sum.inl sd) (.str z))) = H5 at cl5 bt5 fr5 eu5
          obtain ⟨dx5, gp5⟩ := cl5.ins
          obtain ⟨dg5, gg5⟩ := id cl5.gr
          walk_at "rds"
          refine ⟨p, _, dx5, _, _, rfl, gp5, T.cl_Client, T.na_Client__answers, rfl, ?_⟩
          walk_at "rds"
          have tn := cl5.ok.zn
          have txz : ∀ x ∈ m.an ++ [(sd, z)], Tx x.2 := tn
          refine ⟨.inr (.inr (.inl ⟨rfl, .inl ⟨_, cl5.ww⟩⟩)), ?_⟩
          refine ⟨W, _, rfl, rfl, cl5.ww, fun pv hpv => ?_⟩
          walk_at "rds"
          refine ⟨pv, W, _, rfl, upd_same, (same_upd hpv) _ _ cl5.ww, fun l hl => ?_⟩
          have s6 := (same_upd (o := viewO "dict_values" pv W) hpv).trans (same_upd (o := .lst ((kvs Sum.inl V.str (m.an ++ [(sd, z)])).map (·.2))) hl)
          have el : upd (upd H5 pv (viewO "dict_values" pv W)) l (.lst ((kvs Sum.inl V.str (m.an ++ [(sd, z)])).map (·.2))) l = some (.lst ((m.an ++ [(sd, z)]).map fun y => V.str y.2)) := by
            rw [upd_same]; unfold kvs; rw [List.map_map]; rfl
          generalize upd (upd H5 pv (viewO "dict_values" pv W)) l (.lst ((kvs Sum.inl V.str (m.an ++ [(sd, z)])).map (·.2))) = H6 at s6 el
          walk_at "rds"
          refine ⟨.inl ⟨rfl, _, sq el⟩, ?_⟩
          walk_at "rds"
          refine ⟨l, .str z, .str z, (m.an ++ [(sd, z)]).map fun y => PyData.str y.2, rfl, rfl, .lst (sq el) (DtAll.dp _ _ (strs_dt (A := none) txz)), Dt.dp _ _ (.str (A := none) z (Nat.le_trans lz.1 (by decide))), strs_shp txz, (shpL (ly_str lz.2)).1, ?_⟩
          rw [strs_cnt]
          have cl6 := cl5.on s6
          have eu6 := eu5.same s6
          have bt6 := bt5.trans (Same.but s6)
          have fr6 : ∀ {l}, H6 l = none → H l = none := fun q => fr5 (same_none s6 q)
          clear cl5 bt5 fr5 eu5 el s6
          obtain ⟨dx6, gp6⟩ := cl6.ins
          obtain ⟨dg6, gg6⟩ := id cl6.gr
          walk_at "rds"
          refine ⟨p, _, dx6, _, _, rfl, gp6, T.cl_Client, T.na_Client__group, rfl, ?_⟩
          walk_at "rds"
          refine ⟨g, _, dg6, _, _, rfl, gg6, T.cl_Group, T.na_Group_blocking, rfl, ?_⟩
          walk_at "rds"
          refine ite2 (fun e => ?_) (fun e => ?_)
          · have e : ((m.an ++ [(sd, z)]).countP (fun y => decide (y.2 = z)) : Int) < (m.n : Int) + 1 := of_decide_eq_true e
            rw [if_pos (by omega)] at er0
            walk_at "rds"
            intro l2 hl2
            refine q _ l2 [] W xs (bt6.trans (Same.but (same_upd hl2))) (fun _ z => fr6 (same_none (same_upd hl2) z)) (.inl rfl) ?_ (fr6 hl2) upd_same ?_
            · rw [er0]; exact cl6.on (same_upd hl2)
            · rw [er0]; exact .nil
          · have e : ¬ ((m.an ++ [(sd, z)]).countP (fun y => decide (y.2 = z)) : Int) < (m.n : Int) + 1 := fun z => e (decide_eq_true z)
            rw [if_neg (by omega)] at er0
            walk_at "rds"
            refine ⟨p, _, dx6, _, _, rfl, gp6, T.cl_Client, T.na_Client__accepted, rfl, ?_⟩
            walk_at "rds"
            refine ⟨.inl ⟨rfl, _, sq cl6.aa.at_⟩, ?_⟩
            walk_at "rds"
            refine ⟨u, _, 0, _, rfl, rfl, eu6.sq, atI_nat (j := 0) rfl, ?_⟩
            walk_at "rds"
            refine ⟨u, _, 1, _, rfl, rfl, eu6.sq, atI_nat (j := 1) rfl, ?_⟩
            walk_at "rds"
            intro v hv
            have s7 := same_upd (o := .tup [.int k, .str t, .str z]) hv
            have dv : Dt K (upd H6 v (.tup [.int k, .str t, .str z])) none (.ref v) (accD (k, t, z)) := .tup (.inl upd_same) (.cons (.int _) (.cons (.str _ (Nat.le_trans lzt.1 (by decide))) (.cons (.str _ (Nat.le_trans lz.1 (by decide))) .nil)))
            have cl7 := cl6.on s7
            have bt7 := bt6.trans (Same.but s7)
            have fr7 : ∀ {l}, upd H6 v (.tup [.int k, .str t, .str z]) l = none → H l = none := fun q => fr6 (same_none s7 q)
            generalize upd H6 v (.tup [V.int k, .str t, .str z]) = H7 at s7 dv cl7 bt7 fr7
            walk_at "rds"
            refine ⟨A, _, .ref v, rfl, rfl, cl7.aa.at_, sz1000' (by rw [cl7.aa.dt.length, List.length_map]; have := cl7.ok.ac; have := cl7.ok.ts; show m.ac.length < _; exact Nat.lt_of_lt_of_le lt (Nat.le_trans cl.ok.ts (by decide))), ?_⟩
            have cl8 := cl7.addA (x := (k, t, z)) dv lt ⟨lzt, lz⟩
            have bt8 : But [p, A, W] H (upd H7 A (.lst (xs ++ [.ref v]))) := bt7.trans (but_upd (by simp))
            have fr8 : ∀ {l}, upd H7 A (.lst (xs ++ [.ref v])) l = none → H l = none := fun q => fr7 (upd_none cl7.aa.at_ q)
            generalize upd H7 A (HO.lst (xs ++ [.ref v])) = H8 at cl8 bt8 fr8
            walk_at "rds"
            intro W2 hW2
            have s9 := same_upd (o := .dK []) hW2
            have eW2 : upd H8 W2 (.dK []) W2 = some (.dK []) := upd_same
            have cl9 := cl8.on s9
            have bt9 := bt8.trans (Same.but s9)
            have hW0 := fr8 hW2
            have fr9 : ∀ {l}, upd H8 W2 (.dK []) l = none → H l = none := fun q => fr8 (same_none s9 q)
            generalize upd H8 W2 (.dK []) = H9 at s9 eW2 cl9 bt9 fr9
            obtain ⟨dx9, gp9⟩ := cl9.ins
            walk_at "rds"
            refine ⟨p, _, dx9, _, rfl, gp9, T.cl_Client, T.na_Client__answers, (by show 5 < 1000; decide), ?_⟩
            have clA := cl9.newW gp9 eW2
            have btA : But [p, A, W] H (upd H9 p (.ins C_Client dx9 (clF g Ta A W2))) := bt9.trans (but_upd (by simp))
            have frA : ∀ {l}, upd H9 p (.ins C_Client dx9 (clF g Ta A W2)) l = none → H l = none := fun q => fr9 (upd_none gp9 q)
            have ef : putF "_answers" (.ref W2) (clF g Ta A W) = clF g Ta A W2 := rfl
            rw [ef]
            generalize upd H9 p (.ins C_Client dx9 (clF g Ta A W2)) = HA at clA btA frA
            obtain ⟨dxA, gpA⟩ := clA.ins
            walk_at "rds"
            refine ⟨p, dxA, _, rfl, gpA, rfl, ?_⟩
            walk_at "rds"
            refine ⟨p, g, Ta, A, W2, _, _, rfl, clA, fun H' l2 ys s' hl2 el2 dl2 => ?_⟩
            refine q _ l2 ys W2 (xs ++ [.ref v]) (btA.trans (Same.but s')) (fun _ z => frA (same_none s' z)) (.inr hW0) ?_ (frA hl2) el2 ?_
            · rw [er0]; exact clA.on s'
            · rw [er0]; exact dl2
      · refine ifT (by
          by_cases h1 : tag = "answer"
          · rw [decide_eq_true h1, decide_eq_false (fun h2 => hq ⟨h1, h2⟩)]; rfl
          · rw [decide_eq_false h1]; rfl) ?_
        have er : m.recv sd tag num z = (m, []) := by unfold Pm.recv; rw [ep]; exact if_neg (fun q => hq ⟨q.2.1, q.2.2.1⟩)
        walk_at "rds"
        exact nil s14 er
    · have e1 : decide (0 ≤ sd ∧ sd ≤ 3 * (m.n : Int) + 1 - 1) = false := decide_eq_false (by omega)
      rw [e1]
      have er : m.recv sd tag num z = (m, []) := by unfold Pm.recv; rw [ep]; exact if_neg (fun z => hs z.1)
      walk_at "rds"
      exact nil s1 er
end

/-! ### the law's model -/
structure MoAt (K : PySem.W.Frag) (H : Hp) (M T A W : Addr) (m : Pm) (xs : List V) : Prop where
  mm : H M = some (.lst [.ref T, .ref A, .ref W])
  tt : H T = some (.lst (m.ts.map V.str))
  aa : AcAt K H A m.ac xs
  ww : H W = some (.dK (kvs Sum.inl V.str m.an))
  ta : T ≠ A
  mt : M ≠ T
  ma : M ≠ A
  ok : m.ok
theorem MoAt.frame {M T A W : Addr} {K : PySem.W.Frag} {S : List Addr} {H H' : Hp} {m : Pm} {xs : List V} (h : MoAt K H M T A W m xs) (b : But S H H') (d : NT S H) (n : ∀ a ∈ [M, T, A, W], a ∉ S) : MoAt K H' M T A W m xs :=
  { h with
    mm := b _ _ (n _ (by simp)) h.mm
    tt := b _ _ (n _ (by simp)) h.tt
    aa := h.aa.keep (by rw [h.aa.at_]; exact b _ _ (n _ (by simp)) h.aa.at_) (b.tp d)
    ww := b _ _ (n _ (by simp)) h.ww }
theorem MoAt.on {M T A W : Addr} {K : PySem.W.Frag} {H H' : Hp} {m : Pm} {xs : List V} (h : MoAt K H M T A W m xs) (s : Same H H') : MoAt K H' M T A W m xs :=
  h.frame (S := []) (Same.but s) (fun _ m => nomatch m) (fun _ _ m => nomatch m)
theorem MoAt.nt {M T A W : Addr} {K : PySem.W.Frag} {H : Hp} {m : Pm} {xs : List V} (h : MoAt K H M T A W m xs) : NT [M, T, A, W] H := fun a ha ys e => by
  simp only [List.mem_cons, List.not_mem_nil, or_false] at ha
  rcases ha with rfl | rfl | rfl | rfl
  · rw [h.mm] at e; cases e
  · rw [h.tt] at e; cases e
  · rw [h.aa.at_] at e; cases e
  · rw [h.ww] at e; cases e
theorem MoAt.parts {M T A W : Addr} {K : PySem.W.Frag} {H : Hp} {m : Pm} {xs : List V} (h : MoAt K H M T A W m xs) : M ≠ W ∧ T ≠ W ∧ A ≠ W :=
  ⟨ne_kind h.mm h.ww (by intro z; cases z), ne_kind h.tt h.ww (by intro z; cases z), ne_kind h.aa.at_ h.ww (by intro z; cases z)⟩
theorem MoAt.addT {M T A W : Addr} {K : PySem.W.Frag} {H : Hp} {m : Pm} {xs : List V} {z : Str} (h : MoAt K H M T A W m xs) (hl : m.ts.length < 100) (hz : Tx z) :
    MoAt K (upd H T (.lst (m.ts.map V.str ++ [.str z]))) M T A W { m with ts := m.ts ++ [z] } xs := by
  obtain ⟨a1, a2, a3⟩ := h.parts
  have tp := tp_upd (o := .lst (m.ts.map V.str ++ [.str z])) h.tt (by intro _ z; cases z)
  have ok := h.ok
  exact { h with
    mm := by rw [upd_ne h.mt]; exact h.mm
    tt := by rw [upd_same, List.map_append]; rfl
    aa := h.aa.keep (upd_ne h.ta.symm) tp
    ww := by rw [upd_ne a2.symm]; exact h.ww
    ok := { ok with
      ts := by rw [List.length_append]; exact hl
      ac := by rw [List.length_append]; exact Nat.le_succ_of_le ok.ac
      zt := fun y my => by
        rcases List.mem_append.mp my with my | my
        · exact ok.zt y my
        · rw [List.mem_singleton.mp my]; exact hz } }
theorem MoAt.addA {M T A W : Addr} {K : PySem.W.Frag} {H : Hp} {m : Pm} {xs : List V} {v : V} {x : Int × Str × Str} (h : MoAt K H M T A W m xs) (hv : Dt K H none v (accD x)) (hl : m.ac.length < m.ts.length) (hx : Tx x.2.1 ∧ Tx x.2.2) :
    MoAt K (upd H A (.lst (xs ++ [v]))) M T A W { m with ac := m.ac ++ [x] } (xs ++ [v]) := by
  obtain ⟨a1, a2, a3⟩ := h.parts
  have tp := tp_upd (o := .lst (xs ++ [v])) h.aa.at_ (by intro _ z; cases z)
  have ok := h.ok
  exact { h with
    mm := by rw [upd_ne h.ma]; exact h.mm
    tt := by rw [upd_ne h.ta]; exact h.tt
    aa := ⟨upd_same, by rw [List.map_append]; exact DtAll.keep (A := none) tp _ _ (noLs_app (acc_nl _) rfl) (h.aa.dt.snoc hv)⟩
    ww := by rw [upd_ne a3.symm]; exact h.ww
    ok := { ok with
      ac := by rw [List.length_append]; exact hl
      za := fun y my => by
        rcases List.mem_append.mp my with my | my
        · exact ok.za y my
        · rw [List.mem_singleton.mp my]; exact hx } }
theorem MoAt.putW {M T A W : Addr} {K : PySem.W.Frag} {H : Hp} {m : Pm} {xs : List V} {sd : Int} {z : Str} (h : MoAt K H M T A W m xs) (gn : gA m.an sd = none) (hl : m.an.length < 100) (hz : Tx z) :
    MoAt K (upd H W (.dK (putK (kvs Sum.inl V.str m.an) (Sum.inl sd) (.str z)))) M T A W { m with an := m.an ++ [(sd, z)] } xs := by
  obtain ⟨a1, a2, a3⟩ := h.parts
  have tp := tp_upd (o := .dK (putK (kvs Sum.inl V.str m.an) (Sum.inl sd) (.str z))) h.ww (by intro _ z; cases z)
  have ok := h.ok
  have e1 : pA m.an sd z = m.an ++ [(sd, z)] := pA_new gn
  exact { h with
    mm := by rw [upd_ne a1]; exact h.mm
    tt := by rw [upd_ne a2]; exact h.tt
    aa := h.aa.keep (upd_ne a3) tp
    ww := by rw [upd_same, pA_kvs inlI V.str m.an sd z, e1]
    ok := { ok with
      an := by rw [List.length_append]; exact hl
      kk := by have := pA_ok sd z ok.kk; rw [e1] at this; exact this
      zn := fun y my => by
        rcases List.mem_append.mp my with my | my
        · exact ok.zn y my
        · rw [List.mem_singleton.mp my]; exact hz } }
theorem MoAt.newW {M T A W W' : Addr} {K : PySem.W.Frag} {H : Hp} {m : Pm} {xs : List V} (h : MoAt K H M T A W m xs) (hw : H W' = some (.dK [])) :
    MoAt K (upd H M (.lst [.ref T, .ref A, .ref W'])) M T A W' { m with an := [] } xs := by
  obtain ⟨a1, a2, a3⟩ := h.parts
  have tp := tp_upd (o := .lst [.ref T, .ref A, .ref W']) h.mm (by intro _ z; cases z)
  have ok := h.ok
  exact { h with
    mm := upd_same
    tt := by rw [upd_ne h.mt.symm]; exact h.tt
    aa := h.aa.keep (upd_ne h.ma.symm) tp
    ww := by rw [upd_ne (ne_kind hw h.mm (by intro z; cases z))]; exact hw
    ok := { ok with an := Nat.zero_le _, kk := List.nodup_nil, zn := fun _ m => nomatch m } }
theorem upd_back {H : Hp} {d : Addr} {u v : HO} (e : H d = some u) : upd (upd H d v) d u = H := by
  funext b
  by_cases h : b = d
  · rw [h, upd_same, e]
  · rw [upd_ne h, upd_ne h]
def spClInit (Cc Cg : Addr) (K : PySem.W.Frag) : Sp := fun vs H Q _ => ∃ (p dx g : Addr) (n : Nat), vs = [.ref p, .ref g, .int (-5)] ∧ H p = some (.ins Cc dx []) ∧ GrAt Cg H g n ∧ g ≠ p ∧ n ≤ 10 ∧
  ∀ (H' : Hp) (T A W : Addr), (∀ b o, H b = some o → b ≠ p → H' b = some o) → H T = none → H A = none → H W = none → ClAt Cc Cg K H' p g T A W ⟨n, [], [], []⟩ [] → Q .non H'
def spLets (K : PySem.W.Frag) : Sp := fun vs H Q _ => ∃ (M T A W : Addr) (m : Pm) (xs : List V), vs = [.ref M, .int (3 * (m.n : Int) + 1)] ∧ MoAt K H M T A W m xs ∧
  ∀ H' l ys, Same H H' → H l = none → H' l = some (.lst ys) → DtAll K H' none ys m.tick → Q (.ref l) H'
def spMRecv (K : PySem.W.Frag) : Sp := fun vs H Q _ => ∃ (M T A W : Addr) (m : Pm) (xs : List V) (a : Addr) (sd : Int) (tag : Str) (num : Int) (z : Str), vs = [.ref M, .int (3 * (m.n : Int) + 1), .int sd, .ref a] ∧ MoAt K H M T A W m xs ∧
  TupAt K H a [.str tag, .int num, .str z] ∧ Tx z ∧ m.an.length < 100 ∧
  ∀ H' l ys W' xs', But [M, A, W] H H' → Fr H H' → (W' = W ∨ H W' = none) → MoAt K H' M T A W' (m.recv sd tag num z).1 xs' → H l = none → H' l = some (.lst ys) → DtAll K H' none ys (m.recv sd tag num z).2 → Q (.ref l) H'
section
variable {P : Program} {w : World} {K : PySem.W.Frag} {mg : Str → Option Value} {base : Heap}
theorem k_Client {C_Client : Addr} {C_Group : Addr} {C_BadGroup : Addr} {C_FORMS : Addr} (T : Txt K mg w C_Client C_Group C_BadGroup C_FORMS) : Mak P w K mg base 1 "Client" C_Client (spClInit C_Client C_Group K) [] := by
  refine mak T.g_Client T.mk_Client sc_Client____init__ (fun vs H Q E h => ?_) (fun f cdv A outer s H vs Q E hr h => ?_)
  · obtain ⟨p, dx, g, n, rfl, _⟩ := h; rfl
  obtain ⟨p, dx, g, n, rfl, hp, gr, hg, hn, q⟩ := h
  refine ⟨_, (pss_cons (ps_fld (pv 0) (pv 1) rfl)
      (pss_cons (ps_fld (pv 0) (pv 2) rfl)
      (pss_cons (ps_fld (pv 0) (pe_lst pa_nil) rfl)
      (pss_cons (ps_fld (pv 0) (pe_lst pa_nil) rfl)
      (pss_one (ps_fld (pv 0) pe_dnewK rfl)))))), ?_⟩
  walk_at "rds"
  refine ⟨p, _, dx, _, rfl, hp, T.cl_Client, T.na_Client__group, (by show 0 < 1000; decide), ?_⟩
  walk_at "rds"
  refine ⟨p, _, dx, _, rfl, upd_same, T.cl_Client, T.na_Client__name, (by show 1 < 1000; decide), ?_⟩
  have k2 : ∀ b o, H b = some o → b ≠ p → upd (upd H p (.ins C_Client dx (putF "_group" (.ref g) []))) p (.ins C_Client dx (putF "_name" (.int (-5)) (putF "_group" (.ref g) []))) b = some o := fun b o e n => by rw [upd_ne n, upd_ne n]; exact e
  have p2 : upd (upd H p (.ins C_Client dx (putF "_group" (.ref g) []))) p (.ins C_Client dx (putF "_name" (.int (-5)) (putF "_group" (.ref g) []))) p = some (.ins C_Client dx (putF "_name" (.int (-5)) (putF "_group" (.ref g) []))) := upd_same
  generalize upd (upd H p (.ins C_Client dx (putF "_group" (.ref g) []))) p (.ins C_Client dx (putF "_name" (.int (-5)) (putF "_group" (.ref g) []))) = H2 at k2 p2
  walk_at "rds"
  have fresh : ∀ {H3 : Hp} {x : Addr}, (∀ b o, H b = some o → b ≠ p → H3 b = some o) → (∃ o, H3 p = some o) → H3 x = none → H x = none ∧ x ≠ p := fun {H3 x} k e z => by
    have n : x ≠ p := fun y => by obtain ⟨o, e⟩ := e; rw [y, e] at z; cases z
    refine ⟨?_, n⟩
    cases hx : H x with
    | none => rfl
    | some o => rw [k x o hx n] at z; cases z
  intro Ta hT
  obtain ⟨fT, nT⟩ := fresh k2 ⟨_, p2⟩ hT
  walk_at "rds"
  refine ⟨p, _, dx, _, rfl, (same_upd hT) _ _ p2, T.cl_Client, T.na_Client__texts, (by show 2 < 1000; decide), ?_⟩
  have k3 : ∀ b o, H b = some o → b ≠ p → upd (upd H2 Ta (.lst [])) p (.ins C_Client dx (putF "_texts" (.ref Ta) (putF "_name" (.int (-5)) (putF "_group" (.ref g) [])))) b = some o := fun b o e n => by rw [upd_ne n]; exact (same_upd hT) _ _ (k2 b o e n)
  have p3 : upd (upd H2 Ta (.lst [])) p (.ins C_Client dx (putF "_texts" (.ref Ta) (putF "_name" (.int (-5)) (putF "_group" (.ref g) [])))) p = some (.ins C_Client dx (putF "_texts" (.ref Ta) (putF "_name" (.int (-5)) (putF "_group" (.ref g) [])))) := upd_same
  have t3 : upd (upd H2 Ta (.lst [])) p (.ins C_Client dx (putF "_texts" (.ref Ta) (putF "_name" (.int (-5)) (putF "_group" (.ref g) [])))) Ta = some (.lst []) := by rw [upd_ne nT]; exact upd_same
  generalize upd (upd H2 Ta (.lst [])) p (.ins C_Client dx (putF "_texts" (.ref Ta) (putF "_name" (.int (-5)) (putF "_group" (.ref g) [])))) = H3 at k3 p3 t3
  walk_at "rds"
  intro A hA
  obtain ⟨fA, nA⟩ := fresh k3 ⟨_, p3⟩ hA
  walk_at "rds"
  refine ⟨p, _, dx, _, rfl, (same_upd hA) _ _ p3, T.cl_Client, T.na_Client__accepted, (by show 3 < 1000; decide), ?_⟩
  have nTA : Ta ≠ A := ne_of_none t3 hA
  have k4 : ∀ b o, H b = some o → b ≠ p → upd (upd H3 A (.lst [])) p (.ins C_Client dx (putF "_accepted" (.ref A) (putF "_texts" (.ref Ta) (putF "_name" (.int (-5)) (putF "_group" (.ref g) []))))) b = some o := fun b o e n => by rw [upd_ne n]; exact (same_upd hA) _ _ (k3 b o e n)
  have p4 : upd (upd H3 A (.lst [])) p (.ins C_Client dx (putF "_accepted" (.ref A) (putF "_texts" (.ref Ta) (putF "_name" (.int (-5)) (putF "_group" (.ref g) []))))) p = some (.ins C_Client dx (putF "_accepted" (.ref A) (putF "_texts" (.ref Ta) (putF "_name" (.int (-5)) (putF "_group" (.ref g) []))))) := upd_same
  have t4 : upd (upd H3 A (.lst [])) p (.ins C_Client dx (putF "_accepted" (.ref A) (putF "_texts" (.ref Ta) (putF "_name" (.int (-5)) (putF "_group" (.ref g) []))))) Ta = some (.lst []) := by rw [upd_ne nT]; exact (same_upd hA) _ _ t3
  have a4 : upd (upd H3 A (.lst [])) p (.ins C_Client dx (putF "_accepted" (.ref A) (putF "_texts" (.ref Ta) (putF "_name" (.int (-5)) (putF "_group" (.ref g) []))))) A = some (.lst []) := by rw [upd_ne nA]; exact upd_same
  generalize upd (upd H3 A (.lst [])) p (.ins C_Client dx (putF "_accepted" (.ref A) (putF "_texts" (.ref Ta) (putF "_name" (.int (-5)) (putF "_group" (.ref g) []))))) = H4 at k4 p4 t4 a4
  walk_at "rds"
  intro W hW
  obtain ⟨fW, nW⟩ := fresh k4 ⟨_, p4⟩ hW
  walk_at "rds"
  refine ⟨p, _, dx, _, rfl, (same_upd hW) _ _ p4, T.cl_Client, T.na_Client__answers, (by show 4 < 1000; decide), ?_⟩
  refine q _ Ta A W (fun b o e n => by rw [upd_ne n]; exact (same_upd hW) _ _ (k4 b o e n)) fT fA fW ?_
  exact
    { ins := ⟨dx, upd_same⟩
      gr := gr.imp fun _ e => by rw [upd_ne hg]; exact (same_upd hW) _ _ (k4 _ _ e hg)
      tt := by rw [upd_ne nT]; exact (same_upd hW) _ _ t4
      aa := ⟨by rw [upd_ne nA]; exact (same_upd hW) _ _ a4, .nil⟩
      ww := by rw [upd_ne nW]; exact upd_same
      ta := nTA
      ok := ⟨hn, Nat.zero_le _, Nat.le_refl _, Nat.zero_le _, List.nodup_nil, fun _ m => (nomatch m), fun _ m => (nomatch m), fun _ m => (nomatch m)⟩ }
theorem c__law_letters {C_Client : Addr} {C_Group : Addr} {C_BadGroup : Addr} {C_FORMS : Addr} (T : Txt K mg w C_Client C_Group C_BadGroup C_FORMS) : Cal P w K mg base 1 "_law_letters" (spLets K) [] := by
  refine cal T.d__law_letters sc__law_letters (fun vs H Q E h => ?_) (fun f cdv A outer s H vs Q E hr h => ?_)
  · obtain ⟨M, T, A, W, m, xs, rfl, _⟩ := h; rfl
  obtain ⟨M, Ta, A, W, m, xs, rfl, mo, q⟩ := h
  have lac := mo.aa.dt.length
  rw [List.length_map] at lac
  refine ⟨_, (pss_cons (ps_if (pt_cmpR op_ge (pe_callB (klen (K := K)) (by rfl) T.z_len (by decide +kernel) (pa_cons (pe_ix (kixl (K := K)) (pv 0) pe_int (fun _ _ => rfl)) pa_nil)) (pe_callB (klen (K := K)) (by rfl) T.z_len (by decide +kernel) (pa_cons (pe_ix (kixl (K := K)) (pv 0) pe_int (fun _ _ => rfl)) pa_nil)) (nomark _)) (pss_one (ps_ret (pe_lst pa_nil))) pss_nil)
      (pss_cons (ps_set (i := 2) sc__law_letters.nd rfl (Or.inr rfl) (pe_op op_add (pe_callB (klen (K := K)) (by rfl) T.z_len (by decide +kernel) (pa_cons (pe_ix (kixl (K := K)) (pv 0) pe_int (fun _ _ => rfl)) pa_nil)) pe_int))
      (pss_one (ps_ret (pe_lc (own := [("k", 3)]) (g := gName 3) (by rfl) sc__law_letters.nd (pi_range1 (by rfl) T.z_range (pa_cons (pv 1) pa_nil)) (blkOk_by (own := [("k", 3)]) (N := ["model", "machines", "number", "k"]) (sc := defScope s__law_letters) (by decide +kernel)) (fun _ _ _ _ _ => pg_name (i := 3) sc__law_letters.nd rfl (Or.inl rfl)) (fun _ _ _ _ _ => pts_nil) (fun _ _ _ _ _ => (pe_tup (pa_cons (pv 3) (pa_cons (pe_tup (pa_cons pe_str (pa_cons (pv 2) (pa_cons (pe_ix (kixl (K := K)) (pe_ix (kixl (K := K)) (pv 0) pe_int (fun _ _ => rfl)) (pe_op op_sub (pv 2) pe_int) (fun _ _ => rfl)) pa_nil)))) pa_nil))))))))), ?_⟩
  walk_at "rds"
  refine ⟨M, _, 1, _, rfl, rfl, sq mo.mm, atI_nat (j := 1) rfl, ?_⟩
  walk_at "rds"
  refine ⟨A, _, rfl, .inl (sq mo.aa.at_), ?_⟩
  rw [lac]
  walk_at "rds"
  refine ⟨M, _, 0, _, rfl, rfl, sq mo.mm, atI_nat (j := 0) rfl, ?_⟩
  walk_at "rds"
  refine ⟨Ta, _, rfl, .inl (sq mo.tt), ?_⟩
  rw [List.length_map]
  have hac := mo.ok.ac
  walk_at "rds"
  cases e : m.pend with
  | none =>
    have := Pm.pend_none e
    refine ifT (decide_eq_true (by omega)) ?_
    walk_at "rds"
    intro l hl
    refine q _ l [] (same_upd hl) hl upd_same ?_
    unfold Pm.tick; rw [e]; exact .nil
  | some kt =>
    obtain ⟨k, t⟩ := kt
    obtain ⟨rfl, gt, lt⟩ := Pm.pend_some e
    have lz := mo.ok.zt _ (List.mem_of_getElem? gt)
    have hn := mo.ok.n
    refine ifF (decide_eq_false (by omega)) ?_
    walk_at "rds"
    refine ⟨M, _, 1, _, rfl, rfl, sq mo.mm, atI_nat (j := 1) rfl, ?_⟩
    walk_at "rds"
    refine ⟨A, _, rfl, .inl (sq mo.aa.at_), ?_⟩
    rw [lac]
    walk_at "rds"
    intro D hD
    refine lc_it walk_range (Pv := fun i H' => ∃ ys, Same H H' ∧ H' D = some (.lst ys) ∧ DtAll K H' none ys (lettersD i ((m.ac.length : Int) + 1) t)) ⟨[], same_upd hD, upd_same, .nil⟩ (fun _ _ _ _ => trivial) (fun j x H3 H4 hj hp hy => ?_) (fun H3 hp => ?_)
    · obtain ⟨ys, s3, e3, d3⟩ := hp
      obtain ⟨rfl, hx⟩ := hy
      obtain rfl : x = V.int (j : Int) := hx.trans (congrArg V.int (Int.zero_add _))
      clear hx
      have mo := mo.on s3
      have ly : ys.length = j := by rw [d3.length]; unfold lettersD; rw [List.length_map, List.length_range]
      refine ⟨rfl, ?_⟩
      walk_at "rds"
      refine ⟨M, _, 0, _, rfl, rfl, sq mo.mm, atI_nat (j := 0) rfl, ?_⟩
      walk_at "rds"
      refine ⟨Ta, _, _, .str t, rfl, rfl, sq mo.tt, (by rw [Int.add_sub_cancel]; exact atI_nat (by rw [List.getElem?_map, gt]; rfl)), ?_⟩
      walk_at "rds"
      intro t1 ht1
      have s4 := same_upd (o := .tup [.str "command", .int ((m.ac.length : Int) + 1), .str t]) ht1
      have d4 : Dt K (upd H4 t1 (.tup [.str "command", .int ((m.ac.length : Int) + 1), .str t])) none (.ref t1) (cmdD ((m.ac.length : Int) + 1) t) := .tup (.inl upd_same) (.cons (.str _ (by decide)) (.cons (.int _) (.cons (.str _ (Nat.le_trans lz.1 (by decide))) .nil)))
      generalize upd H4 t1 (.tup [V.str "command", .int ((m.ac.length : Int) + 1), .str t]) = H5 at s4 d4
      walk_at "rds"
      intro t2 ht2
      have s5 := s4.trans (same_upd (o := .tup [.int (j : Int), .ref t1]) ht2)
      have d5 : Dt K (upd H5 t2 (.tup [.int (j : Int), .ref t1])) none (.ref t2) (sndD j ((m.ac.length : Int) + 1) t) := .tup (.inl upd_same) (.cons (.int _) (.cons (d4.on (same_upd ht2)) .nil))
      generalize upd H5 t2 (.tup [V.int (j : Int), .ref t1]) = H6 at s5 d5
      have e6 := s5 _ _ e3
      have nl : noLs (lettersD j ((m.ac.length : Int) + 1) t) = true := noLs_all fun d hd => by
        obtain ⟨_, _, rfl⟩ := List.mem_map.mp hd; rfl
      refine ⟨ys, e6, sz1000' (by omega), ys ++ [.ref t2], same_mut (s3.trans s5) hD, upd_same, ?_⟩
      have el : lettersD (j + 1) ((m.ac.length : Int) + 1) t = lettersD j ((m.ac.length : Int) + 1) t ++ [sndD j ((m.ac.length : Int) + 1) t] := by
        unfold lettersD; rw [List.range_succ, List.map_append]; rfl
      rw [el]
      exact DtAll.keep (A := none) (tp_put e6) _ _ (noLs_app nl rfl) ((d3.on s5).snoc d5)
    · obtain ⟨ys, s3, e3, d3⟩ := hp
      rw [show (3 * (m.n : Int) + 1).toNat = 3 * m.n + 1 by omega] at d3
      refine q _ D ys s3 hD e3 ?_
      unfold Pm.tick
      rw [e]
      exact d3
theorem c__law_receive {C_Client : Addr} {C_Group : Addr} {C_BadGroup : Addr} {C_FORMS : Addr} (T : Txt K mg w C_Client C_Group C_BadGroup C_FORMS) : Cal P w K mg base 2 "_law_receive" (spMRecv K) [] := by
  have c__law_letters := c__law_letters (P := P) (w := w) (K := K) (base := base) T
  refine cal T.d__law_receive sc__law_receive (fun vs H Q E h => ?_) (fun f cdv A outer s H vs Q E hr h => ?_)
  · obtain ⟨M, T, A, W, m, xs, a, sd, tag, num, z, rfl, _⟩ := h; rfl
  obtain ⟨M, Ta, A, W, m, xs, a, sd, tag, num, z, rfl, mo, ha, tz, lan, q⟩ := h
  refine ⟨_, (pss_cons (ps_set (i := 4) sc__law_receive.nd rfl (Or.inl rfl) (pe_op op_add (pe_callB (klen (K := K)) (by rfl) T.z_len (by decide +kernel) (pa_cons (pe_ix (kixl (K := K)) (pv 0) pe_int (fun _ _ => rfl)) pa_nil)) pe_int))
      (pss_cons (ps_if (PW.pt (pw_or (pt_cmpR op_gt (pv 4) (pe_callB (klen (K := K)) (by rfl) T.z_len (by decide +kernel) (pa_cons (pe_ix (kixl (K := K)) (pv 0) pe_int (fun _ _ => rfl)) pa_nil)) (nomark _)) (pw_or (pt_cmpR op_ne (pe_ix (kixt (K := K)) (pv 3) pe_int (fun _ _ => rfl)) pe_str (nomark _)) (pw_or1 (pt_cmpR op_ne (pe_ix (kixt (K := K)) (pv 3) pe_int (fun _ _ => rfl)) (pv 4) (nomark _)))))) (pss_one (ps_ret (pe_lst pa_nil))) pss_nil)
      (pss_cons (ps_if (PW.pt (pw_or (pt_cmpR op_lt (pv 2) pe_int (nomark _)) (pw_or (pt_cmpR op_ge (pv 2) (pv 1) (nomark _)) (pw_or1 (pt_cmp (pc_din (by exact hu_of hr) (pv 2) (pe_ix (kixl (K := K)) (pv 0) pe_int (fun _ _ => rfl)))))))) (pss_one (ps_ret (pe_lst pa_nil))) pss_nil)
      (pss_cons (ps_dput (hu_of hr) (pe_ix (kixl (K := K)) (pv 0) pe_int (fun _ _ => rfl)) (pv 2) (pe_ix (kixt (K := K)) (pv 3) pe_int (fun _ _ => rfl)) rfl)
      (pss_cons (ps_set (i := 5) sc__law_receive.nd rfl (Or.inl rfl) pe_int)
      (pss_cons (ps_lock (ps_for PassesOwn.never rfl (pi_keys (pe_ix (kixl (K := K)) (pv 0) pe_int (fun _ _ => rfl))) (pg_name (i := 6) sc__law_receive.nd rfl (Or.inl rfl)) (pss_one (ps_if (pt_cmpR op_eq (pe_dget (by exact hu_of hr) (pe_ix (kixl (K := K)) (pv 0) pe_int (fun _ _ => rfl)) (pv 6) (fun _ _ => rfl)) (pe_ix (kixt (K := K)) (pv 3) pe_int (fun _ _ => rfl)) (nomark _)) (pss_one (ps_set (i := 5) sc__law_receive.nd rfl (Or.inl rfl) (pe_op op_add (pv 5) pe_int))) pss_nil))))
      (pss_cons (ps_if (pt_cmpR op_lt (pv 5) (pe_op op_add (pe_op op_fdiv (pe_op op_sub (pv 1) pe_int) pe_int) pe_int) (nomark _)) (pss_one (ps_ret (pe_lst pa_nil))) pss_nil)
      (pss_cons (ps_expr (pe_bm PySem.F.plainAttrs_list PySem.F.slot_list_append PySem.F.type_list_append mt_append (pe_ix (kixl (K := K)) (pv 0) pe_int (fun _ _ => rfl)) (pa_cons (pe_tup (pa_cons (pv 4) (pa_cons (pe_ix (kixl (K := K)) (pe_ix (kixl (K := K)) (pv 0) pe_int (fun _ _ => rfl)) (pe_op op_sub (pv 4) pe_int) (fun _ _ => rfl)) (pa_cons (pe_ix (kixt (K := K)) (pv 3) pe_int (fun _ _ => rfl)) pa_nil)))) pa_nil)))
      (pss_cons (ps_asg pe_dnewK (pg_sub (pv 0) pe_int set_list))
      (pss_one (ps_ret (pe_c c__law_letters hr (by decide) (by rfl) (pa_cons (pv 0) (pa_cons (pv 1) pa_nil)))))))))))))), ?_⟩
  have lac := mo.aa.dt.length
  rw [List.length_map] at lac
  walk_at "rds"
  refine ⟨M, _, 1, _, rfl, rfl, sq mo.mm, atI_nat (j := 1) rfl, ?_⟩
  walk_at "rds"
  refine ⟨A, _, rfl, .inl (sq mo.aa.at_), ?_⟩
  rw [lac]
  walk_at "rds"
  refine ⟨M, _, 0, _, rfl, rfl, sq mo.mm, atI_nat (j := 0) rfl, ?_⟩
  walk_at "rds"
  refine ⟨Ta, _, rfl, .inl (sq mo.tt), ?_⟩
  rw [List.length_map]
  have hac := mo.ok.ac
  have nil : m.recv sd tag num z = (m, []) → ∀ l, H l = none → Q (.ref l) (upd H l (.lst [])) := fun er l hl => by
    refine q _ l [] W xs (Same.but (same_upd hl)) (Fr.same (same_upd hl)) (.inl rfl) ?_ hl upd_same ?_
    · rw [er]; exact mo.on (same_upd hl)
    · rw [er]; exact .nil
  walk_at "rds"
  cases ep : m.pend with
  | none =>
    have er : m.recv sd tag num z = (m, []) := by unfold Pm.recv; rw [ep]
    have := Pm.pend_none ep
    refine ifT (decide_eq_true (by omega)) ?_
    refine ifT rfl ?_
    walk_at "rds"
    exact nil er
  | some kt =>
    obtain ⟨k, t⟩ := kt
    obtain ⟨ek, gt, lt⟩ := Pm.pend_some ep
    have lzt := mo.ok.zt _ (List.mem_of_getElem? gt)
    refine ifF (decide_eq_false (by omega)) ?_
    walk_at "rds"
    refine ⟨a, _, 0, _, rfl, rfl, ha.sq, atI_nat (j := 0) rfl, ?_⟩
    walk_at "rds"
    by_cases h1 : tag = "answer"
    · refine ifF (by rw [decide_eq_true (by rw [h1])]; rfl) ?_
      walk_at "rds"
      refine ⟨a, _, 1, _, rfl, rfl, ha.sq, atI_nat (j := 1) rfl, ?_⟩
      walk_at "rds"
      by_cases h2 : num = k
      · refine ifF (by rw [decide_eq_true (by rw [h2, ek])]; rfl) ?_
        walk_at "rds"
        by_cases p0 : sd < 0
        · have er : m.recv sd tag num z = (m, []) := by unfold Pm.recv; rw [ep]; exact if_neg (fun q => by have := q.1.1; omega)
          refine ifT (decide_eq_true p0) ?_
          refine ifT rfl ?_
          walk_at "rds"
          exact nil er
        refine ifF (decide_eq_false p0) ?_
        walk_at "rds"
        by_cases p1 : 3 * (m.n : Int) + 1 ≤ sd
        · have er : m.recv sd tag num z = (m, []) := by unfold Pm.recv; rw [ep]; exact if_neg (fun q => by have := q.1.2; omega)
          refine ifT (decide_eq_true p1) ?_
          refine ifT rfl ?_
          walk_at "rds"
          exact nil er
        refine ifF (decide_eq_false p1) ?_
        walk_at "rds"
        refine ⟨M, _, 2, _, rfl, rfl, sq mo.mm, atI_nat (j := 2) rfl, ?_⟩
        refine ⟨W, _, rfl, DGet.k (k := Sum.inl sd) mo.ww, ?_⟩
        rw [gA_kvs inlI]
        cases ga : gA m.an sd with
        | some y =>
          have er : m.recv sd tag num z = (m, []) := by unfold Pm.recv; rw [ep]; exact if_neg (fun q => by rw [ga] at q; cases q.2.2.2)
          walk_at "rds"
          exact nil er
        | none =>
          have er0 : m.recv sd tag num z = (if (m.an ++ [(sd, z)]).countP (fun y => decide (y.2 = z)) < m.n + 1 then ({ m with an := m.an ++ [(sd, z)] }, []) else ({ m with ac := m.ac ++ [(k, t, z)], an := [] }, Pm.tick { m with ac := m.ac ++ [(k, t, z)], an := [] })) := by
            unfold Pm.recv; rw [ep]; exact if_pos ⟨⟨by omega, by omega⟩, h1, h2, ga⟩
          walk_at "rds"
          refine ⟨a, _, 2, _, rfl, rfl, ha.sq, atI_nat (j := 2) rfl, ?_⟩
          walk_at "rds"
          refine ⟨M, _, 2, _, rfl, rfl, sq mo.mm, atI_nat (j := 2) rfl, ?_⟩
          walk_at "rds"
          refine ⟨W, _, rfl, DPut.k (k := Sum.inl sd) mo.ww (by rw [kvs_len]; exact sz1000' (by omega)), ?_⟩
          have mo5 := mo.putW ga lan tz
          have bt5 : But [M, A, W] H (upd H W (.dK (putK (kvs Sum.inl V.str m.an) (Sum.inl sd) (.str z)))) := but_upd (by simp)
          have fr5 : ∀ {l}, upd H W (.dK (putK (kvs Sum.inl V.str m.an) (Sum.inl sd) (.str z))) l = none → H l = none := fun q => upd_none mo.ww q
          have ha5 : TupAt K (upd H W (.dK (putK (kvs Sum.inl V.str m.an) (Sum.inl sd) (.str z)))) a [.str tag, .int num, .str z] := ha.tp (tp_upd mo.ww (by intro _ z; cases z))
          generalize upd H W (.dK (putK (kvs Sum.inl V.str m.an) (Sum.inl sd) (.str z))) = H5 at mo5 bt5 fr5 ha5
          obtain ⟨nMW, nTW, nAW⟩ := mo5.parts
          walk_at "rds"
          refine ⟨W, _, mo5.ww, trivial, fun od => ?_⟩
          have lk : upd H5 W (.frz od (.dK (kvs Sum.inl V.str (m.an ++ [(sd, z)])))) W = some (.frz od (.dK (kvs Sum.inl V.str (m.an ++ [(sd, z)])))) := upd_same
          have mm6 : upd H5 W (.frz od (.dK (kvs Sum.inl V.str (m.an ++ [(sd, z)])))) M = some (.lst [.ref Ta, .ref A, .ref W]) := by rw [upd_ne nMW]; exact mo5.mm
          have ha6 : TupAt K (upd H5 W (.frz od (.dK (kvs Sum.inl V.str (m.an ++ [(sd, z)]))))) a [.str tag, .int num, .str z] := ha5.tp (tp_upd mo5.ww (by intro _ z; cases z))
          have un : upd (upd H5 W (.frz od (.dK (kvs Sum.inl V.str (m.an ++ [(sd, z)]))))) W (.dK (kvs Sum.inl V.str (m.an ++ [(sd, z)]))) = H5 := upd_back mo5.ww
          generalize upd H5 W (.frz od (.dK (kvs Sum.inl V.str (m.an ++ [(sd, z)])))) = H6 at lk mm6 ha6 un
          walk_at "rds"
          refine ⟨M, _, 2, _, rfl, rfl, sq mm6, atI_nat (j := 2) rfl, ?_⟩
          refine ⟨W, od, rfl, .inl ⟨_, lk, ?_⟩⟩
          have kk5 : kOk (m.an ++ [(sd, z)]) := mo5.ok.kk
          refine for_it (walk_keys (d := W) (o := od) (kvs := kvs Sum.inl V.str (m.an ++ [(sd, z)]))) (Pv := fun i σ' H' => H' = H6 ∧ ∃ y6, σ' = [some (.ref M), some (.int (3 * (m.n : Int) + 1)), some (.int sd), some (.ref a), some (.int ((m.ac.length : Int) + 1)), some (.int (((m.an ++ [(sd, z)]).take i).countP (fun y => decide (y.2 = z)) : Nat)), y6]) ⟨rfl, _, rfl⟩ (fun _ _ _ _ h => by rw [h.1]; exact lk) (fun i x σ' H7 H8 hi hp hy => ?_) (fun σ' H7 hp => ?_)
          · obtain ⟨rfl, y6, rfl⟩ := hp
            obtain ⟨rfl, k0, v0, hkv, rfl⟩ := hy
            obtain ⟨y, gy, e1⟩ : ∃ y : Int × Str, (m.an ++ [(sd, z)])[i]? = some y ∧ (Sum.inl y.1, V.str y.2) = (k0, v0) := by
              unfold kvs at hkv
              rw [List.getElem?_map] at hkv
              cases g : (m.an ++ [(sd, z)])[i]? with
              | none => rw [g] at hkv; cases hkv
              | some y => rw [g] at hkv; exact ⟨y, rfl, Option.some.inj hkv⟩
            cases e1
            have gk : gA (m.an ++ [(sd, z)]) y.1 = some y.2 := gA_mem kk5 (List.mem_of_getElem? gy)
            have tk : ((m.an ++ [(sd, z)]).take (i + 1)).countP (fun y => decide (y.2 = z)) = ((m.an ++ [(sd, z)]).take i).countP (fun y => decide (y.2 = z)) + if y.2 = z then 1 else 0 := by
              rw [List.take_add_one, gy, List.countP_append]
              congr 1
              simp [List.countP_cons]
            walk_at "rds"
            refine ⟨M, _, 2, _, rfl, rfl, sq mm6, atI_nat (j := 2) rfl, ?_⟩
            walk_at "rds"
            refine ⟨W, .str y.2, rfl, .inl ⟨kvs Sum.inl V.str (m.an ++ [(sd, z)]), Sum.inl y.1, .inr ⟨od, lk⟩, rfl, by rw [gA_kvs inlI V.str, gk]; rfl⟩, ?_⟩
            walk_at "rds"
            refine ⟨a, _, 2, _, rfl, rfl, ha6.sq, atI_nat (j := 2) rfl, ?_⟩
            walk_at "rds"
            by_cases yz : y.2 = z
            · rw [if_pos yz] at tk
              refine ifT (decide_eq_true (by rw [yz])) ?_
              walk_at "rds"
              exact ⟨rfl, _, by rw [tk]; rfl⟩
            · rw [if_neg yz] at tk
              refine ifF (decide_eq_false (fun q => yz (V.str.inj q))) ?_
              exact ⟨rfl, _, by rw [tk]; rfl⟩
          obtain ⟨rfl, y6, rfl⟩ := hp
          rw [List.take_of_length_le (by rw [kvs_len]; exact Nat.le_refl _)]
          refine ⟨lk, ?_⟩
          rw [un]
          walk_at "rds"
          have hdv : (3 * (m.n : Int) + 1 - 1) / 3 = (m.n : Int) := by omega
          rw [hdv]
          refine ite2 (fun e => ?_) (fun e => ?_)
          · have e : (((m.an ++ [(sd, z)]).countP (fun y => decide (y.2 = z)) : Nat) : Int) < (m.n : Int) + 1 := of_decide_eq_true e
            rw [if_pos (by omega)] at er0
            walk_at "rds"
            intro l hl
            refine q _ l [] W xs (bt5.trans (Same.but (same_upd hl))) (fun _ z => fr5 (same_none (same_upd hl) z)) (.inl rfl) ?_ (fr5 hl) upd_same ?_
            · rw [er0]; exact mo5.on (same_upd hl)
            · rw [er0]; exact .nil
          · have e : ¬ (((m.an ++ [(sd, z)]).countP (fun y => decide (y.2 = z)) : Nat) : Int) < (m.n : Int) + 1 := fun z => e (decide_eq_true z)
            rw [if_neg (by omega)] at er0
            walk_at "rds"
            refine ⟨M, _, 1, _, rfl, rfl, sq mo5.mm, atI_nat (j := 1) rfl, ?_⟩
            walk_at "rds"
            refine ⟨.inl ⟨rfl, _, sq mo5.aa.at_⟩, ?_⟩
            walk_at "rds"
            refine ⟨M, _, 0, _, rfl, rfl, sq mo5.mm, atI_nat (j := 0) rfl, ?_⟩
            walk_at "rds"
            refine ⟨Ta, _, _, .str t, rfl, rfl, sq mo5.tt, (by rw [Int.add_sub_cancel]; exact atI_nat (by rw [List.getElem?_map]; show Option.map V.str (m.ts[m.ac.length]?) = _; rw [gt]; rfl)), ?_⟩
            walk_at "rds"
            refine ⟨a, _, 2, _, rfl, rfl, ha5.sq, atI_nat (j := 2) rfl, ?_⟩
            walk_at "rds"
            intro v hv
            have s7 := same_upd (o := .tup [.int ((m.ac.length : Int) + 1), .str t, .str z]) hv
            have dv : Dt K (upd H5 v (.tup [.int ((m.ac.length : Int) + 1), .str t, .str z])) none (.ref v) (accD (k, t, z)) := by
              rw [ek]
              exact .tup (.inl upd_same) (.cons (.int _) (.cons (.str _ (Nat.le_trans lzt.1 (by decide))) (.cons (.str _ (Nat.le_trans tz.1 (by decide))) .nil)))
            have mo7 := mo5.on s7
            have bt7 := bt5.trans (Same.but s7)
            have fr7 : ∀ {l}, upd H5 v (.tup [.int ((m.ac.length : Int) + 1), .str t, .str z]) l = none → H l = none := fun q => fr5 (same_none s7 q)
            generalize upd H5 v (.tup [V.int ((m.ac.length : Int) + 1), .str t, .str z]) = H9 at s7 dv mo7 bt7 fr7
            walk_at "rds"
            refine ⟨A, _, .ref v, rfl, rfl, mo7.aa.at_, sz1000' (by rw [lac]; have := mo.ok.ts; omega), ?_⟩
            have mo8 := mo7.addA (x := (k, t, z)) dv lt ⟨lzt, tz⟩
            have bt8 : But [M, A, W] H (upd H9 A (.lst (xs ++ [.ref v]))) := bt7.trans (but_upd (by simp))
            have fr8 : ∀ {l}, upd H9 A (.lst (xs ++ [.ref v])) l = none → H l = none := fun q => fr7 (upd_none mo7.aa.at_ q)
            generalize upd H9 A (HO.lst (xs ++ [.ref v])) = HA at mo8 bt8 fr8
            walk_at "rds"
            intro W2 hW2
            have s9 := same_upd (o := .dK []) hW2
            have eW2 : upd HA W2 (.dK []) W2 = some (.dK []) := upd_same
            have mo9 := mo8.on s9
            have bt9 := bt8.trans (Same.but s9)
            have hW0 := fr8 hW2
            have fr9 : ∀ {l}, upd HA W2 (.dK []) l = none → H l = none := fun q => fr8 (same_none s9 q)
            generalize upd HA W2 (.dK []) = HB at s9 eW2 mo9 bt9 fr9
            walk_at "rds"
            refine ⟨M, _, 2, 2, rfl, rfl, mo9.mm, rfl, ?_⟩
            have moC := mo9.newW eW2
            have btC : But [M, A, W] H (upd HB M (.lst [.ref Ta, .ref A, .ref W2])) := bt9.trans (but_upd (by simp))
            have frC : ∀ {l}, upd HB M (.lst [.ref Ta, .ref A, .ref W2]) l = none → H l = none := fun q => fr9 (upd_none mo9.mm q)
            have ef : [V.ref Ta, .ref A, .ref W].set 2 (.ref W2) = [.ref Ta, .ref A, .ref W2] := rfl
            rw [ef]
            generalize upd HB M (.lst [V.ref Ta, .ref A, .ref W2]) = HC at moC btC frC
            walk_at "rds"
            refine ⟨M, Ta, A, W2, { m with ac := m.ac ++ [(k, t, z)], an := [] }, _, rfl, moC, fun H' l2 ys s' hl2 el2 dl2 => ?_⟩
            refine q _ l2 ys W2 (xs ++ [.ref v]) (btC.trans (Same.but s')) (fun _ z => frC (same_none s' z)) (.inr hW0) ?_ (frC hl2) el2 ?_
            · rw [er0]; exact moC.on s'
            · rw [er0]; exact dl2
      · have er : m.recv sd tag num z = (m, []) := by unfold Pm.recv; rw [ep]; exact if_neg (fun q => h2 q.2.2.1)
        refine ifT (by rw [decide_eq_false (fun q => h2 (by rw [ek]; exact V.int.inj q))]; rfl) ?_
        walk_at "rds"
        exact nil er
    · have er : m.recv sd tag num z = (m, []) := by unfold Pm.recv; rw [ep]; exact if_neg (fun q => h1 q.2.1)
      refine ifT (by rw [decide_eq_false (fun q => h1 (V.str.inj q))]; rfl) ?_
      refine ifT rfl ?_
      walk_at "rds"
      exact nil er
end

--@SPLIT
/-! ### the law itself -/
structure St (Cc Cg : Addr) (K : PySem.W.Frag) (H : Hp) (p g T A W M T' A' W' : Addr) (m : Pm) (xs ys : List V) : Prop where
  cl : ClAt Cc Cg K H p g T A W m xs
  mo : MoAt K H M T' A' W' m ys
  dj : ∀ a ∈ [p, g, T, A, W], a ∉ [M, T', A', W']
theorem St.on {Cc Cg p g T A W M T' A' W' : Addr} {K : PySem.W.Frag} {H H' : Hp} {m : Pm} {xs ys : List V} (h : St Cc Cg K H p g T A W M T' A' W' m xs ys) (s : Same H H') : St Cc Cg K H' p g T A W M T' A' W' m xs ys :=
  { h with cl := h.cl.on s, mo := h.mo.on s }
/-- what one call says of the state -/
def spCall (Cc Cg : Addr) (K : PySem.W.Frag) : Sp := fun vs H Q _ => ∃ (p g T A W M T' A' W' : Addr) (m : Pm) (xs ys : List V) (r : Int), vs = [.ref p, .ref M, .int (3 * (m.n : Int) + 1), .int r] ∧ St Cc Cg K H p g T A W M T' A' W' m xs ys ∧ m.ts.length < 100 ∧ m.an.length < 100 ∧
  ∀ H' W1 W1' m' xs' ys', But [p, T, A, W, M, T', A', W'] H H' → (W1 = W ∨ H W1 = none) → (W1' = W' ∨ H W1' = none) → St Cc Cg K H' p g T A W1 M T' A' W1' m' xs' ys' → m'.n = m.n → m'.ts.length ≤ m.ts.length + 1 → m'.an.length ≤ m.an.length + 1 → Q (.bl true) H'
def spSame (Cc Cg : Addr) (K : PySem.W.Frag) : Sp := fun vs H Q _ => ∃ (p g T A W M T' A' W' : Addr) (m : Pm) (xs ys : List V), vs = [.ref p, .ref M] ∧ St Cc Cg K H p g T A W M T' A' W' m xs ys ∧ ∀ H', Same H H' → Q (.bl true) H'
theorem cmd_ly (k n : Int) {z : Str} (h : Tx z) : Ly 3 (sndD k n z) := ly_tup (ly_cons (ly_int _) (ly_cons (ly_tup (ly_cons (ly_str (by decide +kernel)) (ly_cons (ly_int _) (ly_cons (ly_str h.2) ly_nil)))) ly_nil))
/-- lists that one may compare -/
def Lo (d : List PyData) : Prop := noLs d = true ∧ SeqAt.shaped (.list d) = true ∧ PyData.eqv (.list d) (.list d) = true
theorem lo_nil : Lo [] := ⟨rfl, (shpL ((ly_lst (k := 3) ly_nil).mono (by decide))).1, (shpL ((ly_lst (k := 3) ly_nil).mono (by decide))).2⟩
theorem Pm.tick_lo {m : Pm} (ok : m.ok) : Lo m.tick := by
  unfold Pm.tick
  cases e : m.pend with
  | none => exact lo_nil
  | some kt =>
    obtain ⟨k, t⟩ := kt
    obtain ⟨_, gt, _⟩ := Pm.pend_some e
    have tz := ok.zt _ (List.mem_of_getElem? gt)
    have l := shpL ((ly_lst (k := 3) fun d hd => by
      obtain ⟨i, _, rfl⟩ := List.mem_map.mp hd
      exact cmd_ly _ _ tz : Ly 4 (.list (lettersD (3 * m.n + 1) k t))).mono (by decide))
    exact ⟨noLs_all fun d hd => by obtain ⟨_, _, rfl⟩ := List.mem_map.mp hd; rfl, l.1, l.2⟩
theorem Pm.recv_lo {m : Pm} {sd num : Int} {g z : Str} (ok : (m.recv sd g num z).1.ok) : Lo (m.recv sd g num z).2 := by
  unfold Pm.recv at ok ⊢
  cases e : m.pend with
  | none => exact lo_nil
  | some kt =>
    obtain ⟨k, t⟩ := kt
    rw [e] at ok
    dsimp only at ok ⊢
    split at ok
    · rename_i h1
      rw [if_pos h1]
      split at ok
      · rename_i h2
        rw [if_pos h2]; exact lo_nil
      · rename_i h2
        rw [if_neg h2]; exact Pm.tick_lo ok
    · rename_i h1
      rw [if_neg h1]; exact lo_nil
theorem Pm.recv_n {m : Pm} {sd num : Int} {g z : Str} : (m.recv sd g num z).1.n = m.n ∧ (m.recv sd g num z).1.ts = m.ts ∧ (m.recv sd g num z).1.an.length ≤ m.an.length + 1 := by
  unfold Pm.recv
  cases e : m.pend with
  | none => exact ⟨rfl, rfl, Nat.le_succ _⟩
  | some kt =>
    dsimp only
    split
    · split
      · exact ⟨rfl, rfl, by rw [List.length_append]; exact Nat.le_refl _⟩
      · exact ⟨rfl, rfl, Nat.zero_le _⟩
    · exact ⟨rfl, rfl, Nat.le_succ _⟩
def PdAt (m : Pm) (H : Hp) (pv : V) : Prop := (m.pend = none ∧ pv = .non) ∨ ∃ (k : Int) (t : Str) (u : Addr), m.pend = some (k, t) ∧ pv = .ref u ∧ H u = some (.tup [.int k, .str t])
theorem pend_mk {m : Pm} {H : Hp} {Q : VK} (h : ∀ pv H', Same H H' → PdAt m H' pv → Q pv H') : PendP m H Q := by
  unfold PendP
  cases e : m.pend with
  | none => exact h _ _ (Same.refl _) (.inl ⟨e, rfl⟩)
  | some kt => exact fun u hu => h _ _ (same_upd hu) (.inr ⟨_, _, u, e, rfl, upd_same⟩)
theorem acc_shp {m : Pm} (ok : m.ok) : SeqAt.shaped (.list (m.ac.map accD)) = true ∧ PyData.eqv (.list (m.ac.map accD)) (.list (m.ac.map accD)) = true :=
  shpL ((ly_lst (k := 3) fun d hd => by
    obtain ⟨x, mx, rfl⟩ := List.mem_map.mp hd
    have := ok.za x mx
    exact ly_tup (ly_cons (ly_int _) (ly_cons (ly_str this.1.2) (ly_cons (ly_str this.2.2) ly_nil)))).mono (by decide))
theorem subm_lo {m : Pm} {z : Str} (ok : m.ok) (ok2 : ({ m with ts := m.ts ++ [z] } : Pm).ok) : Lo (m.subm z) := by
  unfold Pm.subm
  split
  · exact lo_nil
  · exact Pm.tick_lo ok2
theorem St.some_ {Cc Cg p g T A W M T' A' W' : Addr} {K : PySem.W.Frag} {H : Hp} {m : Pm} {xs ys : List V} (h : St Cc Cg K H p g T A W M T' A' W' m xs ys) : ∀ a ∈ [p, g, T, A, W, M, T', A', W'], ∃ o, H a = some o := fun a ha => by
  obtain ⟨_, e1⟩ := h.cl.ins
  obtain ⟨_, e2⟩ := h.cl.gr
  simp only [List.mem_cons, List.not_mem_nil, or_false] at ha
  rcases ha with rfl | rfl | rfl | rfl | rfl | rfl | rfl | rfl | rfl
  · exact ⟨_, e1⟩
  · exact ⟨_, e2⟩
  · exact ⟨_, h.cl.tt⟩
  · exact ⟨_, h.cl.aa.at_⟩
  · exact ⟨_, h.cl.ww⟩
  · exact ⟨_, h.mo.mm⟩
  · exact ⟨_, h.mo.tt⟩
  · exact ⟨_, h.mo.aa.at_⟩
  · exact ⟨_, h.mo.ww⟩
theorem lo_keep {K : PySem.W.Frag} {H H' : Hp} {xs : List V} {d : List PyData} (l : Lo d) (t : Tp H H') (h : DtAll K H none xs d) : DtAll K H' none xs d := DtAll.keep t _ _ l.1 h
section
variable {P : Program} {w : World} {K : PySem.W.Frag} {mg : Str → Option Value} {base : Heap}
theorem c__law_call {C_Client : Addr} {C_Group : Addr} {C_BadGroup : Addr} {C_FORMS : Addr} (T : Txt K mg w C_Client C_Group C_BadGroup C_FORMS) : Cal P w K mg base 6 "_law_call" (spCall C_Client C_Group K) [] := by
  have c__law_letters := c__law_letters (P := P) (w := w) (K := K) (base := base) T
  have c__law_receive := c__law_receive (P := P) (w := w) (K := K) (base := base) T
  have m_Client__submit := m_Client__submit (P := P) (w := w) (K := K) (base := base) T
  have m_Client__tick := m_Client__tick (P := P) (w := w) (K := K) (base := base) T
  have m_Client__receive := m_Client__receive (P := P) (w := w) (K := K) (base := base) T
  refine cal T.d__law_call sc__law_call (fun vs H Q E h => ?_) (fun f cdv A outer s H vs Q E hr h => ?_)
  · obtain ⟨p, g, T, A, W, M, T', A', W', m, xs, ys, r, rfl, _⟩ := h; rfl
  obtain ⟨p, g, Ta, A, W, M, Tb, B, X, m, xs, ys, r, rfl, st, lt, ln, q⟩ := h
  refine ⟨_, (pss_cons (ps_set (i := 4) sc__law_call.nd rfl (Or.inl rfl) (pe_op op_mod (pv 3) pe_int))
      (pss_cons (ps_set (i := 5) sc__law_call.nd rfl (Or.inl rfl) (pe_op op_fdiv (pv 3) pe_int))
      (pss_cons (ps_if (pt_cmpR op_eq (pv 4) pe_int (nomark _)) (pss_cons (ps_set (i := 6) sc__law_call.nd rfl (Or.inl rfl) (pe_ix (kixl (K := K)) (pe_lst (pa_cons pe_str (pa_cons pe_str (pa_cons pe_str (pa_cons pe_str pa_nil))))) (pe_op op_mod (pv 5) pe_int) (fun _ _ => rfl)))
      (pss_cons (ps_expr (pe_bm PySem.F.plainAttrs_list PySem.F.slot_list_append PySem.F.type_list_append mt_append (pe_ix (kixl (K := K)) (pv 1) pe_int (fun _ _ => rfl)) (pa_cons (pv 6) pa_nil)))
      (pss_cons (ps_set (i := 7) sc__law_call.nd rfl (Or.inl rfl) (pe_ifExp (pt_cmpR op_eq (pe_callB (klen (K := K)) (by rfl) T.z_len (by decide +kernel) (pa_cons (pe_ix (kixl (K := K)) (pv 1) pe_int (fun _ _ => rfl)) pa_nil)) (pe_op op_add (pe_callB (klen (K := K)) (by rfl) T.z_len (by decide +kernel) (pa_cons (pe_ix (kixl (K := K)) (pv 1) pe_int (fun _ _ => rfl)) pa_nil)) pe_int) (nomark _)) (pe_c c__law_letters hr (by decide) (by rfl) (pa_cons (pv 1) (pa_cons (pv 2) pa_nil))) (pe_lst pa_nil)))
      (pss_one (ps_ret (pe_cmpR (op_eqD hr.units) (pe_mt m_Client__submit hr (by decide) (pv 0) (pa_cons (pv 6) pa_nil)) (pv 7) (nomark _))))))) pss_nil)
      (pss_cons (ps_if (pt_cmpR op_eq (pv 4) pe_int (nomark _)) (pss_one (ps_ret (pe_cmpR (op_eqD hr.units) (pe_mt0 m_Client__tick hr (by decide) (pv 0)) (pe_c c__law_letters hr (by decide) (by rfl) (pa_cons (pv 1) (pa_cons (pv 2) pa_nil))) (nomark _)))) pss_nil)
      (pss_cons (ps_set (i := 8) sc__law_call.nd rfl (Or.inl rfl) (pe_callB (call_max2 rfl) (by rfl) T.z_max (by decide +kernel) (pa_cons pe_int (pa_cons (pe_op op_add (pe_callB (klen (K := K)) (by rfl) T.z_len (by decide +kernel) (pa_cons (pe_ix (kixl (K := K)) (pv 1) pe_int (fun _ _ => rfl)) pa_nil)) (pe_op op_mod (pv 5) pe_int)) pa_nil))))
      (pss_cut (ps_if (pt_cmpR op_ne (pe_op op_mod (pv 5) pe_int) pe_int (nomark _)) (pss_one (ps_set (i := 8) sc__law_call.nd rfl (Or.inl rfl) (pe_op op_add (pe_callB (klen (K := K)) (by rfl) T.z_len (by decide +kernel) (pa_cons (pe_ix (kixl (K := K)) (pv 1) pe_int (fun _ _ => rfl)) pa_nil)) pe_int))) pss_nil)
      (pss_cons (ps_set (i := 9) sc__law_call.nd rfl (Or.inl rfl) (pe_tup (pa_cons pe_str (pa_cons (pv 8) (pa_cons (pe_ix (kixl (K := K)) (pe_lst (pa_cons pe_str (pa_cons pe_str (pa_cons pe_str pa_nil)))) (pe_op op_mod (pe_op op_fdiv (pv 5) pe_int) pe_int) (fun _ _ => rfl)) pa_nil)))))
      (pss_cut (ps_if (PW.pt (pw_and (pt_cmpR op_eq (pv 4) pe_int (nomark _)) (pw_and1 (pt_cmpR op_eq (pe_op op_mod (pe_op op_fdiv (pv 5) pe_int) pe_int) pe_int (nomark _))))) (pss_one (ps_set (i := 9) sc__law_call.nd rfl (Or.inl rfl) (pe_tup (pa_cons pe_str (pa_cons (pv 8) (pa_cons pe_str pa_nil)))))) pss_nil)
      (pss_cons (ps_set (i := 10) sc__law_call.nd rfl (Or.inl rfl) (pe_op op_mod (pe_op op_fdiv (pv 5) pe_int) (pv 2)))
      (pss_cut (ps_if (PW.pt (pw_and (pt_cmpR op_eq (pv 4) pe_int (nomark _)) (pw_and1 (pt_cmpR op_eq (pe_op op_mod (pe_op op_fdiv (pv 5) pe_int) pe_int) pe_int (nomark _))))) (pss_one (ps_set (i := 10) sc__law_call.nd rfl (Or.inl rfl) (pe_ix (kixl (K := K)) (pe_lst (pa_cons (pe_un un_neg pe_int) (pa_cons (pv 2) (pa_cons (pe_un un_neg pe_int) (pa_cons (pe_op op_add (pv 2) pe_int) pa_nil))))) (pe_op op_mod (pe_op op_fdiv (pv 5) pe_int) pe_int) (fun _ _ => rfl)))) pss_nil)
      (pss_cons (ps_set (i := 7) sc__law_call.nd rfl (Or.inl rfl) (pe_c c__law_receive hr (by decide) (by rfl) (pa_cons (pv 1) (pa_cons (pv 2) (pa_cons (pv 10) (pa_cons (pv 9) pa_nil))))))
      (pss_one (ps_ret (pe_cmpR (op_eqD hr.units) (pe_mt m_Client__receive hr (by decide) (pv 0) (pa_cons (pv 10) (pa_cons (pv 9) pa_nil))) (pv 7) (nomark _))))))))))))))), ?_⟩
  have hn := st.mo.ok.n
  walk_at "rds"
  refine ite2 (fun e => ?_) (fun e => ?_)
  · walk_at "rds"
    intro L hL
    have s1 := same_upd (o := .lst [.str "open ann", .str "", .str "get k", .str "balance ann"]) hL
    have eL : upd H L (.lst [.str "open ann", .str "", .str "get k", .str "balance ann"]) L = some (.lst [.str "open ann", .str "", .str "get k", .str "balance ann"]) := upd_same
    have st1 := st.on s1
    generalize upd H L (.lst [V.str "open ann", .str "", .str "get k", .str "balance ann"]) = H1 at s1 eL st1
    have hz : ∃ z : Str, atI [V.str "open ann", .str "", .str "get k", .str "balance ann"] (r / 8 % 4) = some (.str z) ∧ Tx z := by
      have : r / 8 % 4 = 0 ∨ r / 8 % 4 = 1 ∨ r / 8 % 4 = 2 ∨ r / 8 % 4 = 3 := by omega
      rcases this with h | h | h | h
      · rw [h]; exact ⟨"open ann", rfl, by decide +kernel, by decide +kernel⟩
      · rw [h]; exact ⟨"", rfl, by decide +kernel, by decide +kernel⟩
      · rw [h]; exact ⟨"get k", rfl, by decide +kernel, by decide +kernel⟩
      · rw [h]; exact ⟨"balance ann", rfl, by decide +kernel, by decide +kernel⟩
    obtain ⟨z, ez, tz⟩ := hz
    walk_at "rds"
    refine ⟨L, _, _, _, rfl, rfl, sq eL, ez, ?_⟩
    walk_at "rds"
    refine ⟨M, _, 0, _, rfl, rfl, sq st1.mo.mm, atI_nat (j := 0) rfl, ?_⟩
    walk_at "rds"
    refine ⟨.inl ⟨rfl, _, sq st1.mo.tt⟩, ?_⟩
    walk_at "rds"
    refine ⟨Tb, _, .str z, rfl, rfl, st1.mo.tt, sz1000' (by rw [List.length_map]; omega), ?_⟩
    have dj := st.dj
    have mo2 := st1.mo.addT lt tz
    have bt2 : But [Tb] H1 (upd H1 Tb (.lst (m.ts.map V.str ++ [.str z]))) := but_upd (by simp)
    have cl2 := st1.cl.frame bt2 (fun a h => st1.mo.nt a (by simp at h ⊢; exact .inr (.inl h))) (fun a h h2 => dj a h (by rw [List.mem_singleton.mp h2]; simp))
    generalize upd H1 Tb (HO.lst (m.ts.map V.str ++ [.str z])) = H2 at mo2 bt2 cl2
    have lac := mo2.aa.dt.length
    rw [List.length_map] at lac
    have hac := st.mo.ok.ac
    walk_at "rds"
    refine ⟨M, _, 0, _, rfl, rfl, sq mo2.mm, atI_nat (j := 0) rfl, ?_⟩
    walk_at "rds"
    refine ⟨Tb, _, rfl, .inl (sq mo2.tt), ?_⟩
    rw [List.length_map]
    walk_at "rds"
    refine ⟨M, _, 1, _, rfl, rfl, sq mo2.mm, atI_nat (j := 1) rfl, ?_⟩
    walk_at "rds"
    refine ⟨B, _, rfl, .inl (sq mo2.aa.at_), ?_⟩
    rw [lac]
    walk_at "rds"
    refine ite2 (fun e => ?_) (fun e => ?_)
    · have e : (m.ts ++ [z]).length = m.ac.length + 1 := by have := V.int.inj (of_decide_eq_true e); exact Int.ofNat.inj this
      walk_at "rds"
      refine ⟨M, Tb, B, X, { m with ts := m.ts ++ [z] }, ys, rfl, mo2, fun H3 l1 ys1 s3 hl1 el1 d1 => ?_⟩
      have d1 : DtAll K H3 none ys1 (m.subm z) := by
        unfold Pm.subm
        rw [List.length_append, List.length_singleton] at e
        rw [if_neg (by omega)]
        exact d1
      have cl3 := cl2.on s3
      have mo3 := mo2.on s3
      obtain ⟨dx3, gp3⟩ := cl3.ins
      walk_at "rds"
      refine ⟨p, dx3, _, rfl, gp3, rfl, ?_⟩
      walk_at "rds"
      refine ⟨p, g, Ta, A, W, m, xs, z, rfl, cl3, lt, tz, fun H' l2 ys2 bt cl' hl2 el2 dl2 => ?_⟩
      have nl : l1 ∉ [Ta] := fun h => by
        rw [List.mem_singleton.mp h, cl2.tt] at hl1; cases hl1
      have nt : NT [Ta] H3 := fun a h => cl3.nt a (by simp at h ⊢; exact .inr (.inl h))
      have el' := bt _ _ nl el1
      have mo' := mo3.frame bt nt (fun a h h2 => dj Ta (by simp) (by rw [← List.mem_singleton.mp h2]; exact h))
      walk_at "rds"
      have lo := subm_lo st.cl.ok mo2.ok
      refine ⟨.list _, .list _, .lst (sq el2) (DtAll.dp _ _ dl2), .lst (sq el') (DtAll.dp _ _ (lo_keep lo (bt.tp nt) d1)), lo.2.1, lo.2.1, ?_⟩
      rw [lo.2.2]
      refine q H' W X { m with ts := m.ts ++ [z] } xs ys ?_ (.inl rfl) (.inl rfl) ⟨cl', mo', dj⟩ rfl (by rw [List.length_append]; exact Nat.le_refl _) (Nat.le_succ _)
      exact (Same.but s1).trans ((bt2.mono (by simp)).trans ((Same.but s3).trans (bt.mono (by simp))))
    · have e : ¬ (m.ts ++ [z]).length = m.ac.length + 1 := fun h => e (decide_eq_true (congrArg V.int (congrArg Int.ofNat h)))
      walk_at "rds"
      intro l1 hl1
      have s3 := same_upd (o := .lst []) hl1
      have el1 : upd H2 l1 (.lst []) l1 = some (.lst []) := upd_same
      have d1 : DtAll K (upd H2 l1 (.lst [])) none [] (m.subm z) := by
        unfold Pm.subm
        rw [List.length_append, List.length_singleton] at e
        rw [if_pos (by omega)]
        exact .nil
      have cl3 := cl2.on s3
      have mo3 := mo2.on s3
      generalize upd H2 l1 (.lst []) = H3 at s3 el1 d1 cl3 mo3
      obtain ⟨dx3, gp3⟩ := cl3.ins
      walk_at "rds"
      refine ⟨p, dx3, _, rfl, gp3, rfl, ?_⟩
      walk_at "rds"
      refine ⟨p, g, Ta, A, W, m, xs, z, rfl, cl3, lt, tz, fun H' l2 ys2 bt cl' hl2 el2 dl2 => ?_⟩
      have nl : l1 ∉ [Ta] := fun h => by
        rw [List.mem_singleton.mp h, cl2.tt] at hl1; cases hl1
      have nt : NT [Ta] H3 := fun a h => cl3.nt a (by simp at h ⊢; exact .inr (.inl h))
      have el' := bt _ _ nl el1
      have mo' := mo3.frame bt nt (fun a h h2 => dj Ta (by simp) (by rw [← List.mem_singleton.mp h2]; exact h))
      walk_at "rds"
      have lo := subm_lo st.cl.ok mo2.ok
      refine ⟨.list _, .list _, .lst (sq el2) (DtAll.dp _ _ dl2), .lst (sq el') (DtAll.dp _ _ (lo_keep lo (bt.tp nt) d1)), lo.2.1, lo.2.1, ?_⟩
      rw [lo.2.2]
      refine q H' W X { m with ts := m.ts ++ [z] } xs ys ?_ (.inl rfl) (.inl rfl) ⟨cl', mo', dj⟩ rfl (by rw [List.length_append]; exact Nat.le_refl _) (Nat.le_succ _)
      exact (Same.but s1).trans ((bt2.mono (by simp)).trans ((Same.but s3).trans (bt.mono (by simp))))
  · walk_at "rds"
    refine ite2 (fun e1 => ?_) (fun e1 => ?_)
    · walk_at "rds"
      obtain ⟨dx, gp⟩ := st.cl.ins
      refine ⟨p, dx, _, rfl, gp, rfl, ?_⟩
      walk_at "rds"
      refine ⟨p, g, Ta, A, W, m, xs, rfl, st.cl, fun H1 l1 ys1 s1 hl1 el1 d1 => ?_⟩
      walk_at "rds"
      refine ⟨M, Tb, B, X, m, ys, rfl, st.mo.on s1, fun H2 l2 ys2 s2 hl2 el2 d2 => ?_⟩
      walk_at "rds"
      have lo := Pm.tick_lo st.cl.ok
      refine ⟨.list _, .list _, .lst (sq (s2 _ _ el1)) (DtAll.dp _ _ (d1.on s2)), .lst (sq el2) (DtAll.dp _ _ d2), lo.2.1, lo.2.1, ?_⟩
      rw [lo.2.2]
      exact q H2 W X m xs ys (Same.but (s1.trans s2)) (.inl rfl) (.inl rfl) (st.on (s1.trans s2)) rfl (Nat.le_succ _) (Nat.le_succ _)
    · have lac := st.mo.aa.dt.length
      rw [List.length_map] at lac
      have hac := st.mo.ok.ac
      have hts := st.mo.ok.ts
      walk_at "rds"
      refine ⟨M, _, 1, _, rfl, rfl, sq st.mo.mm, atI_nat (j := 1) rfl, ?_⟩
      walk_at "rds"
      refine ⟨B, _, rfl, .inl (sq st.mo.aa.at_), ?_⟩
      rw [lac]
      walk_at "rds"
      refine ⟨_, _, rfl, ?_⟩
      walk_at "rds"
      refine ⟨fun σ' H' => ∃ nu : Int, σ' = [some (.ref p), some (.ref M), some (.int (3 * (m.n : Int) + 1)), some (.int r), some (.int (r % 8)), some (.int (r / 8)), none, none, some (.int nu), none, none] ∧ H' = H ∧ 1 ≤ nu ∧ nu ≤ 1000, ?_, ?_⟩
      · walk_at "rds"
        refine ite2 (fun _ => ?_) (fun _ => ?_)
        · walk_at "rds"
          refine ⟨M, _, 1, _, rfl, rfl, sq st.mo.mm, atI_nat (j := 1) rfl, ?_⟩
          walk_at "rds"
          refine ⟨B, _, rfl, .inl (sq st.mo.aa.at_), ?_⟩
          rw [lac]
          walk_at "rds"
          exact ⟨_, rfl, rfl, by omega, by omega⟩
        · exact ⟨_, rfl, rfl, by split <;> omega, by split <;> omega⟩
      rintro σ' H1 ⟨nu, rfl, rfl, nu1, nu2⟩
      walk_at "rds"
      intro L hL
      have s1 := same_upd (o := .lst [.str "ok", .str "", .str "ok;5"]) hL
      have eL : upd H1 L (.lst [.str "ok", .str "", .str "ok;5"]) L = some (.lst [.str "ok", .str "", .str "ok;5"]) := upd_same
      have st1 := st.on s1
      generalize upd H1 L (.lst [V.str "ok", .str "", .str "ok;5"]) = H2 at s1 eL st1
      have hz : ∃ z : Str, atI [V.str "ok", .str "", .str "ok;5"] (r / 8 / 4 % 3) = some (.str z) ∧ Tx z ∧ isPr z = true := by
        have : r / 8 / 4 % 3 = 0 ∨ r / 8 / 4 % 3 = 1 ∨ r / 8 / 4 % 3 = 2 := by omega
        rcases this with h | h | h
        · rw [h]; exact ⟨"ok", rfl, ⟨by decide +kernel, by decide +kernel⟩, by decide +kernel⟩
        · rw [h]; exact ⟨"", rfl, ⟨by decide +kernel, by decide +kernel⟩, by decide +kernel⟩
        · rw [h]; exact ⟨"ok;5", rfl, ⟨by decide +kernel, by decide +kernel⟩, by decide +kernel⟩
      obtain ⟨z, ez, tz, pz⟩ := hz
      walk_at "rds"
      refine ⟨L, _, _, _, rfl, rfl, sq eL, ez, ?_⟩
      walk_at "rds"
      intro a ha
      have s2 := s1.trans (same_upd (o := .tup [.str "answer", .int nu, .str z]) ha)
      have ea : TupAt K (upd H2 a (.tup [.str "answer", .int nu, .str z])) a [.str "answer", .int nu, .str z] := .inl upd_same
      generalize upd H2 a (.tup [V.str "answer", .int nu, .str z]) = H3 at s2 ea
      walk_at "rds"
      refine ⟨fun σ' H' => ∃ (a : Addr) (tag z : Str), σ' = [some (.ref p), some (.ref M), some (.int (3 * (m.n : Int) + 1)), some (.int r), some (.int (r % 8)), some (.int (r / 8)), none, none, some (.int nu), some (.ref a), none] ∧ Same H1 H' ∧ TupAt K H' a [.str tag, .int nu, .str z] ∧ (tag = "answer" ∨ tag = "command") ∧ Tx z ∧ isPr z = true, ?_, ?_⟩
      · have keep : ∃ (a' : Addr) (tag z : Str), [some (V.ref p), some (.ref M), some (.int (3 * (m.n : Int) + 1)), some (.int r), some (.int (r % 8)), some (.int (r / 8)), none, none, some (.int nu), some (.ref a), none] = [some (.ref p), some (.ref M), some (.int (3 * (m.n : Int) + 1)), some (.int r), some (.int (r % 8)), some (.int (r / 8)), none, none, some (.int nu), some (.ref a'), none] ∧ Same H1 H3 ∧ TupAt K H3 a' [.str tag, .int nu, .str z] ∧ (tag = "answer" ∨ tag = "command") ∧ Tx z ∧ isPr z = true := ⟨a, "answer", z, rfl, s2, ea, .inl rfl, tz, pz⟩
        walk_at "rds"
        refine ite2 (fun _ => ?_) (fun _ => ?_)
        · walk_at "rds"
          refine ite2 (fun _ => ?_) (fun _ => ?_)
          · walk_at "rds"
            intro b hb
            exact ⟨b, "command", "ok", rfl, s2.trans (same_upd hb), .inl upd_same, .inr rfl, ⟨by decide +kernel, by decide +kernel⟩, by decide +kernel⟩
          · exact keep
        · exact keep
      clear ea s2 tz pz ez
      rintro σ' H4 ⟨a, tag, z, rfl, s4, ea, htag, tz, pz⟩
      walk_at "rds"
      refine ⟨fun σ' H' => ∃ sd : Int, σ' = [some (.ref p), some (.ref M), some (.int (3 * (m.n : Int) + 1)), some (.int r), some (.int (r % 8)), some (.int (r / 8)), none, none, some (.int nu), some (.ref a), some (.int sd)] ∧ Same H1 H' ∧ TupAt K H' a [.str tag, .int nu, .str z], ?_, ?_⟩
      · walk_at "rds"
        refine ite2 (fun _ => ?_) (fun _ => ?_)
        · walk_at "rds"
          refine ite2 (fun _ => ?_) (fun _ => ?_)
          · walk_at "rds"
            intro b hb
            have s5 := s4.trans (same_upd (o := .lst [.int (-1), .int (3 * (m.n : Int) + 1), .int (-2), .int (3 * (m.n : Int) + 1 + 3)]) hb)
            have eb : upd H4 b (.lst [.int (-1), .int (3 * (m.n : Int) + 1), .int (-2), .int (3 * (m.n : Int) + 1 + 3)]) b = some (.lst [.int (-1), .int (3 * (m.n : Int) + 1), .int (-2), .int (3 * (m.n : Int) + 1 + 3)]) := upd_same
            have ea := ea.same (same_upd (o := .lst [.int (-1), .int (3 * (m.n : Int) + 1), .int (-2), .int (3 * (m.n : Int) + 1 + 3)]) hb)
            have hx : ∃ i : Int, atI [V.int (-1), .int (3 * (m.n : Int) + 1), .int (-2), .int (3 * (m.n : Int) + 1 + 3)] (r / 8 / 48 % 4) = some (.int i) := by
              have : r / 8 / 48 % 4 = 0 ∨ r / 8 / 48 % 4 = 1 ∨ r / 8 / 48 % 4 = 2 ∨ r / 8 / 48 % 4 = 3 := by omega
              rcases this with h | h | h | h
              · rw [h]; exact ⟨_, rfl⟩
              · rw [h]; exact ⟨_, rfl⟩
              · rw [h]; exact ⟨_, rfl⟩
              · rw [h]; exact ⟨_, rfl⟩
            obtain ⟨i, ei⟩ := hx
            walk_at "rds"
            refine ⟨b, _, _, _, rfl, rfl, sq eb, ei, ?_⟩
            exact ⟨i, rfl, s5, ea⟩
          · exact ⟨_, rfl, s4, ea⟩
        · exact ⟨_, rfl, s4, ea⟩
      clear ea s4
      rintro σ' H5 ⟨sd, rfl, s5, ea⟩
      have st5 := st.on s5
      have dj := st.dj
      walk_at "rds"
      refine ⟨M, Tb, B, X, m, ys, a, sd, tag, nu, z, rfl, st5.mo, ea, tz, ln, fun H6 l1 ys1 X1 ys' b6 fr6 hX mo6 hl1 el1 d1 => ?_⟩
      have nt6 : NT [M, B, X] H5 := fun x h => st5.mo.nt x (by simp at h ⊢; rcases h with h | h | h <;> simp [h])
      have cl6 := st5.cl.frame b6 nt6 (fun x h h2 => dj x h (by simp at h2 ⊢; rcases h2 with h2 | h2 | h2 <;> simp [h2]))
      have ea6 := ea.tp (b6.tp nt6)
      obtain ⟨dx6, gp6⟩ := cl6.ins
      walk_at "rds"
      refine ⟨p, dx6, _, rfl, gp6, rfl, ?_⟩
      walk_at "rds"
      refine ⟨p, g, Ta, A, W, m, xs, a, sd, tag, nu, z, rfl, cl6, ea6, htag, nu1, nu2, pz, tz, ln, fun H7 l2 ys2 W1 xs' b7 fr7 hW cl7 hl2 el2 d2 => ?_⟩
      have nt7 : NT [p, A, W] H6 := fun x h => cl6.nt x (by simp at h ⊢; rcases h with h | h | h <;> simp [h])
      have lo := Pm.recv_lo cl7.ok
      have ex : ∀ {x : Addr}, x ∈ [p, g, Ta, A, W, M, Tb, B, X] → ∀ {y : Addr}, H5 y = none → x ≠ y := fun {x} h {y} z e => by
        obtain ⟨o, eo⟩ := st5.some_ x h
        rw [e, z] at eo; cases eo
      have n1 : l1 ∉ [p, A, W] := fun h => ex (by simp at h ⊢; rcases h with h | h | h <;> simp [h]) hl1 rfl
      have el1 := b7 _ _ n1 el1
      have d1 := lo_keep lo (b7.tp nt7) d1
      have dX : ∀ x ∈ [p, g, Ta, A, W], x ≠ X1 := fun x h => by
        rcases hX with e | e
        · rw [e]; exact fun e2 => dj x h (by rw [e2]; simp)
        · exact ex (by simp at h ⊢; rcases h with h | h | h | h | h <;> simp [h]) e
      have dj6 : ∀ x ∈ [p, g, Ta, A, W], x ∉ [M, Tb, B, X1] := fun x h h2 => by
        simp only [List.mem_cons, List.not_mem_nil, or_false] at h2
        rcases h2 with e | e | e | e
        · exact dj x h (by rw [e]; simp)
        · exact dj x h (by rw [e]; simp)
        · exact dj x h (by rw [e]; simp)
        · exact dX x h e
      have mo7 := mo6.frame b7 nt7 (fun x h h2 => by
        have h3 : x ∈ [p, g, Ta, A, W] := by simp at h2 ⊢; rcases h2 with h2 | h2 | h2 <;> simp [h2]
        exact dj6 x h3 h)
      have ex6 : ∀ x ∈ [M, Tb, B, X1], ∃ o, H6 x = some o := fun x h => by
        simp only [List.mem_cons, List.not_mem_nil, or_false] at h
        rcases h with rfl | rfl | rfl | rfl
        · exact ⟨_, mo6.mm⟩
        · exact ⟨_, mo6.tt⟩
        · exact ⟨_, mo6.aa.at_⟩
        · exact ⟨_, mo6.ww⟩
      have dj7 : ∀ x ∈ [p, g, Ta, A, W1], x ∉ [M, Tb, B, X1] := fun x h h2 => by
        simp only [List.mem_cons, List.not_mem_nil, or_false] at h
        rcases h with e | e | e | e | e
        · exact dj6 x (by simp [e]) h2
        · exact dj6 x (by simp [e]) h2
        · exact dj6 x (by simp [e]) h2
        · exact dj6 x (by simp [e]) h2
        · rcases hW with w | w
          · exact dj6 x (by simp [e, w]) h2
          · obtain ⟨o, eo⟩ := ex6 x h2
            rw [e, w] at eo; cases eo
      obtain ⟨r1, r2, r3⟩ := Pm.recv_n (m := m) (sd := sd) (num := nu) (g := tag) (z := z)
      walk_at "rds"
      refine ⟨.list _, .list _, .lst (sq el2) (DtAll.dp _ _ d2), .lst (sq el1) (DtAll.dp _ _ d1), lo.2.1, lo.2.1, ?_⟩
      rw [lo.2.2]
      refine q H7 W1 X1 _ xs' ys' ?_ (hW.imp_right fun z => same_none s5 (fr6 _ z)) (hX.imp_right fun z => same_none s5 z) ⟨cl7, mo7, dj7⟩ r1 (by rw [r2]; exact Nat.le_succ _) r3
      exact (Same.but s5).trans ((b6.mono fun x h => by simp at h ⊢; rcases h with h | h | h <;> simp [h]).trans (b7.mono fun x h => by simp at h ⊢; rcases h with h | h | h <;> simp [h]))
theorem c__law_same {C_Client : Addr} {C_Group : Addr} {C_BadGroup : Addr} {C_FORMS : Addr} (T : Txt K mg w C_Client C_Group C_BadGroup C_FORMS) : Cal P w K mg base 3 "_law_same" (spSame C_Client C_Group K) [] := by
  have m_Client__pending := m_Client__pending (P := P) (w := w) (K := K) (base := base) T
  have m_Client__accepted := m_Client__accepted (P := P) (w := w) (K := K) (base := base) T
  have m_Client__waiting := m_Client__waiting (P := P) (w := w) (K := K) (base := base) T
  refine cal T.d__law_same sc__law_same (fun vs H Q E h => ?_) (fun f cdv A outer s H vs Q E hr h => ?_)
  · obtain ⟨p, g, T, A, W, M, T', A', W', m, xs, ys, rfl, _⟩ := h; rfl
  obtain ⟨p, g, Ta, A, W, M, Tb, B, X, m, xs, ys, rfl, st, q⟩ := h
  refine ⟨_, (pss_cons (ps_set (i := 2) sc__law_same.nd rfl (Or.inl rfl) (pe_op op_add (pe_callB (klen (K := K)) (by rfl) T.z_len (by decide +kernel) (pa_cons (pe_ix (kixl (K := K)) (pv 1) pe_int (fun _ _ => rfl)) pa_nil)) pe_int))
      (pss_cons (ps_set (i := 3) sc__law_same.nd rfl (Or.inl rfl) (pe_mt0 m_Client__pending hr (by decide) (pv 0)))
      (pss_cut (ps_if (pt_cmpR op_gt (pv 2) (pe_callB (klen (K := K)) (by rfl) T.z_len (by decide +kernel) (pa_cons (pe_ix (kixl (K := K)) (pv 1) pe_int (fun _ _ => rfl)) pa_nil)) (nomark _)) (pss_one (ps_if (pt_cmpR op_notN (pv 3) pe_non (nomark _)) (pss_one (ps_ret pe_bl)) pss_nil)) (pss_one (ps_if (pt_cmpR (op_neD hr.units) (pv 3) (pe_tup (pa_cons (pv 2) (pa_cons (pe_ix (kixl (K := K)) (pe_ix (kixl (K := K)) (pv 1) pe_int (fun _ _ => rfl)) (pe_op op_sub (pv 2) pe_int) (fun _ _ => rfl)) pa_nil))) (nomark _)) (pss_one (ps_ret pe_bl)) pss_nil)))
      (pss_cons (ps_set (i := 4) sc__law_same.nd rfl (Or.inl rfl) (pe_mt0 m_Client__accepted hr (by decide) (pv 0)))
      (pss_cons (ps_if (PW.pt (pw_or (pt_not (pt_val (pe_callB (kisi (K := K)) (by rfl) T.z_isinstance (by decide +kernel) (pa_cons (pv 4) (pa_cons (pe_bltn (v := .ty "list") (by rfl) T.z_list (by decide +kernel) rfl) pa_nil))))) (pw_or1 (pt_cmpR (op_neD hr.units) (pv 4) (pe_ix (kixl (K := K)) (pv 1) pe_int (fun _ _ => rfl)) (nomark _))))) (pss_one (ps_ret pe_bl)) pss_nil)
      (pss_cons (ps_expr (pe_bm PySem.F.plainAttrs_list PySem.F.slot_list_append PySem.F.type_list_append mt_append (pv 4) (pa_cons pe_int pa_nil)))
      (pss_one (ps_ret (pe_and (pe_cmpR op_eq (pe_mt0 m_Client__waiting hr (by decide) (pv 0)) (pe_op op_sub (pe_callB (klen (K := K)) (by rfl) T.z_len (by decide +kernel) (pa_cons (pe_ix (kixl (K := K)) (pv 1) pe_int (fun _ _ => rfl)) pa_nil)) (pe_callB (klen (K := K)) (by rfl) T.z_len (by decide +kernel) (pa_cons (pe_ix (kixl (K := K)) (pv 1) pe_int (fun _ _ => rfl)) pa_nil))) (nomark _)) (pe_one (pe_cmpR (op_eqD hr.units) (pe_mt0 m_Client__accepted hr (by decide) (pv 0)) (pe_ix (kixl (K := K)) (pv 1) pe_int (fun _ _ => rfl)) (nomark _)))))))))))), ?_⟩
  have lac := st.mo.aa.dt.length
  rw [List.length_map] at lac
  have hac := st.mo.ok.ac
  obtain ⟨dx, gp⟩ := st.cl.ins
  walk_at "rds"
  refine ⟨M, _, 1, _, rfl, rfl, sq st.mo.mm, atI_nat (j := 1) rfl, ?_⟩
  walk_at "rds"
  refine ⟨B, _, rfl, .inl (sq st.mo.aa.at_), ?_⟩
  rw [lac]
  walk_at "rds"
  refine ⟨p, dx, _, rfl, gp, rfl, ?_⟩
  walk_at "rds"
  refine ⟨p, g, Ta, A, W, m, xs, rfl, st.cl, ?_⟩
  refine pend_mk (fun pv H1 s1 hp => ?_)
  have st1 := st.on s1
  walk_at "rds"
  refine ⟨fun σ' H' => σ' = [some (.ref p), some (.ref M), some (.int ((m.ac.length : Int) + 1)), some pv, none] ∧ Same H1 H', ?_, ?_⟩
  · walk_at "rds"
    refine ⟨M, _, 0, _, rfl, rfl, sq st1.mo.mm, atI_nat (j := 0) rfl, ?_⟩
    walk_at "rds"
    refine ⟨Tb, _, rfl, .inl (sq st1.mo.tt), ?_⟩
    rw [List.length_map]
    walk_at "rds"
    rcases hp with ⟨ep, rfl⟩ | ⟨k, t, u, ep, rfl, eu⟩
    · have := Pm.pend_none ep
      refine ifT (decide_eq_true (by omega)) ?_
      walk_at "rds"
      refine ifF rfl ?_
      exact ⟨rfl, Same.refl _⟩
    · obtain ⟨rfl, gt, lt⟩ := Pm.pend_some ep
      have tz := st.mo.ok.zt _ (List.mem_of_getElem? gt)
      refine ifF (decide_eq_false (by omega)) ?_
      walk_at "rds"
      refine ⟨M, _, 0, _, rfl, rfl, sq st1.mo.mm, atI_nat (j := 0) rfl, ?_⟩
      walk_at "rds"
      refine ⟨Tb, _, _, .str t, rfl, rfl, sq st1.mo.tt, (by rw [Int.add_sub_cancel]; exact atI_nat (by rw [List.getElem?_map, gt]; rfl)), ?_⟩
      walk_at "rds"
      intro u2 hu2
      have s2 := same_upd (o := .tup [.int ((m.ac.length : Int) + 1), .str t]) hu2
      have e1 : TupAt K (upd H1 u2 (.tup [.int ((m.ac.length : Int) + 1), .str t])) u [.int ((m.ac.length : Int) + 1), .str t] := .inl (s2 _ _ eu)
      have e2 : TupAt K (upd H1 u2 (.tup [.int ((m.ac.length : Int) + 1), .str t])) u2 [.int ((m.ac.length : Int) + 1), .str t] := .inl upd_same
      have dt : ∀ {x : Addr}, TupAt K (upd H1 u2 (.tup [.int ((m.ac.length : Int) + 1), .str t])) x [.int ((m.ac.length : Int) + 1), .str t] → Dp K (upd H1 u2 (.tup [.int ((m.ac.length : Int) + 1), .str t])) (.ref x) (.tuple [.int ((m.ac.length : Int) + 1), .str t]) := fun h => Dt.dp _ _ (.tup (A := none) h (.cons (.int _) (.cons (.str _ (Nat.le_trans tz.1 (by decide))) .nil)))
      have sh := shpL ((ly_tup (k := 1) (ly_cons (ly_int ((m.ac.length : Int) + 1)) (ly_cons (ly_str tz.2) ly_nil))).mono (by decide))
      refine ⟨_, _, dt e1, dt e2, sh.1, sh.1, ?_⟩
      refine ⟨_, rfl, ifF (by rw [sh.2]; rfl) ?_⟩
      exact ⟨rfl, s2⟩
  clear hp st1
  rintro σ' H2 ⟨rfl, s2⟩
  have s12 := s1.trans s2
  have st2 := st.on s12
  obtain ⟨dx2, gp2⟩ := st2.cl.ins
  walk_at "rds"
  refine ⟨p, dx2, _, rfl, gp2, rfl, ?_⟩
  walk_at "rds"
  refine ⟨p, g, Ta, A, W, m, xs, rfl, st2.cl, fun l hl => ?_⟩
  have s3 := s12.trans (same_upd (o := .lst xs) hl)
  have el : upd H2 l (.lst xs) l = some (.lst xs) := upd_same
  have hl0 := same_none s12 hl
  generalize upd H2 l (.lst xs) = H3 at s3 el
  have st3 := st.on s3
  have ash := acc_shp st.mo.ok
  walk_at "rds"
  walk_at "isi"
  walk_at "rds"
  refine ⟨M, _, 1, _, rfl, rfl, sq st3.mo.mm, atI_nat (j := 1) rfl, ?_⟩
  walk_at "rds"
  refine ⟨.list _, .list _, .lst (sq el) (DtAll.dp _ _ st3.cl.aa.dt), .lst (sq st3.mo.aa.at_) (DtAll.dp _ _ st3.mo.aa.dt), ash.1, ash.1, ?_⟩
  refine ⟨_, rfl, ifF (by rw [ash.2]; rfl) ?_⟩
  walk_at "rds"
  refine ⟨.inl ⟨rfl, _, sq el⟩, ?_⟩
  walk_at "rds"
  refine ⟨l, _, .int 0, rfl, rfl, el, sz1000' (by rw [st.cl.aa.dt.length, List.length_map]; have := st.mo.ok.ts; omega), ?_⟩
  have s4 : Same H (upd H3 l (.lst (xs ++ [.int 0]))) := same_mut s3 hl0
  generalize upd H3 l (HO.lst (xs ++ [.int 0])) = H4 at s4
  have st4 := st.on s4
  obtain ⟨dx4, gp4⟩ := st4.cl.ins
  walk_at "rds"
  refine ⟨p, dx4, _, rfl, gp4, rfl, ?_⟩
  walk_at "rds"
  refine ⟨p, g, Ta, A, W, m, xs, rfl, st4.cl, ?_⟩
  walk_at "rds"
  refine ⟨M, _, 0, _, rfl, rfl, sq st4.mo.mm, atI_nat (j := 0) rfl, ?_⟩
  walk_at "rds"
  refine ⟨Tb, _, rfl, .inl (sq st4.mo.tt), ?_⟩
  rw [List.length_map]
  walk_at "rds"
  refine ⟨M, _, 1, _, rfl, rfl, sq st4.mo.mm, atI_nat (j := 1) rfl, ?_⟩
  walk_at "rds"
  refine ⟨B, _, rfl, .inl (sq st4.mo.aa.at_), ?_⟩
  rw [lac]
  walk_at "rds"
  refine ifT (decide_eq_true rfl) ?_
  walk_at "rds"
  refine ⟨p, dx4, _, rfl, gp4, rfl, ?_⟩
  walk_at "rds"
  refine ⟨p, g, Ta, A, W, m, xs, rfl, st4.cl, fun l2 hl2 => ?_⟩
  have s5 := s4.trans (same_upd (o := .lst xs) hl2)
  have el2 : upd H4 l2 (.lst xs) l2 = some (.lst xs) := upd_same
  generalize upd H4 l2 (.lst xs) = H5 at s5 el2
  have st5 := st.on s5
  walk_at "rds"
  refine ⟨M, _, 1, _, rfl, rfl, sq st5.mo.mm, atI_nat (j := 1) rfl, ?_⟩
  refine ⟨.list _, .list _, .lst (sq el2) (DtAll.dp _ _ st5.cl.aa.dt), .lst (sq st5.mo.aa.at_) (DtAll.dp _ _ st5.mo.aa.dt), ash.1, ash.1, ?_⟩
  rw [ash.2]
  exact q _ s5
theorem ok_law {C_Client : Addr} {C_Group : Addr} {C_BadGroup : Addr} {C_FORMS : Addr} {f : Addr} {fd : FuncData} (F : L2.Fun K "law" "law" s_law f fd) (T : Txt K mg w C_Client C_Group C_BadGroup C_FORMS) : FnOk P w K mg base L2.CX0 8 f fd ["script"] (spLaw K) := by
  have c__law_call := c__law_call (P := P) (w := w) (K := K) (base := base) T
  have c__law_same := c__law_same (P := P) (w := w) (K := K) (base := base) T
  have c__law_rich := c__law_rich (P := P) (w := w) (base := base) T
  have k_Group := k_Group (P := P) (w := w) (base := base) T
  have k_Client := k_Client (P := P) (w := w) (K := K) (base := base) T
  refine F.ok sc_law (fun vs H Q E h => ?_) (fun cdv A outer s H vs Q E hr h => ?_)
  · obtain ⟨a, ns, rfl, _⟩ := h; rfl
  obtain ⟨a, ns, rfl, hS, hlen, q⟩ := h
  refine ⟨_, (pss_cons (ps_set (i := 1) sc_law.nd rfl (Or.inl rfl) pe_int)
      (pss_cut (ps_if (pt_cmpR op_gt (pe_callB (klen (K := K)) (by rfl) T.z_len (by decide +kernel) (pa_cons (pv 0) pa_nil)) pe_int (nomark _)) (pss_one (ps_set (i := 1) sc_law.nd rfl (Or.inl rfl) (pe_ix (kixl (K := K)) (pe_lst (pa_cons pe_int (pa_cons pe_int (pa_cons pe_int (pa_cons pe_int pa_nil))))) (pe_op op_mod (pe_callTy call_int1 (by rfl) T.z_int (by decide +kernel) (pa_cons (pe_ix (kixl (K := K)) (pv 0) pe_int (fun _ _ => rfl)) pa_nil)) pe_int) (fun _ _ => rfl)))) pss_nil)
      (pss_cons (ps_set (i := 2) sc_law.nd rfl (Or.inl rfl) (pe_op op_add (pe_op op_mul pe_int (pv 1)) pe_int))
      (pss_cons (ps_set (i := 3) sc_law.nd rfl (Or.inl rfl) (pe_mk k_Client hr (by decide) (by rfl) (pa_cons (pe_mkX k_Group hr (by decide) (by rfl) no_pass (pa_cons (pv 1) pa_nil)) (pa_cons (pe_un un_neg pe_int) pa_nil))))
      (pss_cons (ps_set (i := 4) sc_law.nd rfl (Or.inl rfl) (pe_lst (pa_cons (pe_lst pa_nil) (pa_cons (pe_lst pa_nil) (pa_cons pe_dnewK pa_nil)))))
      (pss_cons (ps_if (pt_not (pt_val (pe_c c__law_same hr (by decide) (by rfl) (pa_cons (pv 3) (pa_cons (pv 4) pa_nil))))) (pss_one (ps_ret pe_bl)) pss_nil)
      (pss_cons (ps_for PassesOwn.never rfl (pi_range2 (by rfl) T.z_range (pa_cons pe_int (pa_cons (pe_callB (klen (K := K)) (by rfl) T.z_len (by decide +kernel) (pa_cons (pv 0) pa_nil)) pa_nil))) (pg_name (i := 5) sc_law.nd rfl (Or.inl rfl)) (pss_cons (ps_if (pt_not (pt_val (pe_c c__law_call hr (by decide) (by rfl) (pa_cons (pv 3) (pa_cons (pv 4) (pa_cons (pv 2) (pa_cons (pe_c c__law_rich hr (by decide) (by rfl) (pa_cons (pe_ix (kixl (K := K)) (pv 0) (pv 5) (fun _ _ => rfl)) (pa_cons (pv 5) pa_nil))) pa_nil))))))) (pss_one (ps_ret pe_bl)) pss_nil)
      (pss_one (ps_if (pt_not (pt_val (pe_c c__law_same hr (by decide) (by rfl) (pa_cons (pv 3) (pa_cons (pv 4) pa_nil))))) (pss_one (ps_ret pe_bl)) pss_nil))))
      (pss_one (ps_ret pe_bl))))))))), ?_⟩
  walk_at "rds"
  refine ⟨fun σ' H' => ∃ n : Nat, σ' = [some (.ref a), some (.int n), none, none, none, none] ∧ Same H H' ∧ n ≤ 10, ?_, ?_⟩
  · walk_at "rds"
    refine ⟨a, _, rfl, .inl hS, ?_⟩
    rw [List.length_map]
    walk_at "rds"
    refine ite2 (fun e => ?_) (fun e => ?_)
    · have e : (0 : Int) < (ns.length : Int) := of_decide_eq_true e
      obtain ⟨c, r, rfl⟩ : ∃ c r, ns = c :: r := by
        cases ns with
        | nil => exact absurd e (by decide)
        | cons c r => exact ⟨c, r, rfl⟩
      walk_at "rds"
      intro b hb
      have s1 := same_upd (o := .lst [.int 0, .int 1, .int 2, .int 10]) hb
      have eb : upd H b (.lst [.int 0, .int 1, .int 2, .int 10]) b = some (.lst [.int 0, .int 1, .int 2, .int 10]) := upd_same
      generalize upd H b (.lst [V.int 0, .int 1, .int 2, .int 10]) = H1 at s1 eb
      walk_at "rds"
      refine ⟨a, _, 0, _, rfl, rfl, s1.seq hS, atI_nat (j := 0) rfl, ?_⟩
      have hx : ∃ n : Nat, atI [V.int 0, .int 1, .int 2, .int 10] (c % 4) = some (.int n) ∧ n ≤ 10 := by
        have : c % 4 = 0 ∨ c % 4 = 1 ∨ c % 4 = 2 ∨ c % 4 = 3 := by omega
        rcases this with h | h | h | h
        · rw [h]; exact ⟨0, rfl, by decide⟩
        · rw [h]; exact ⟨1, rfl, by decide⟩
        · rw [h]; exact ⟨2, rfl, by decide⟩
        · rw [h]; exact ⟨10, rfl, by decide⟩
      obtain ⟨n, en, hn⟩ := hx
      walk_at "rds"
      refine ⟨b, _, _, _, rfl, rfl, sq eb, en, ?_⟩
      exact ⟨n, rfl, s1, hn⟩
    · exact ⟨1, rfl, Same.refl _, by decide⟩
  rintro σ' H1 ⟨n, rfl, s1, hn⟩
  walk_at "rds"
  intro g dx hp hdx hne
  refine ⟨g, dx, _, rfl, upd_same, .inl ⟨(n : Int), rfl, by omega, by omega, fun H2 kp gr1 => ⟨rfl, ?_⟩⟩⟩
  have s2 : Same H1 H2 := Same.made hp hdx kp
  walk_at "rds"
  intro p dp hp2 hdp hne2
  have mk : Same H2 (upd (upd H2 dp (.own p)) p (.ins C_Client dp [])) := (same_upd hdp).trans (same_upd (by rw [upd_ne hne2.symm]; exact hp2))
  have hgp : g ≠ p := by
    obtain ⟨dg, e⟩ := gr1
    exact ne_of_none e hp2
  refine ⟨p, dp, g, n, rfl, upd_same, gr1.imp fun _ e => mk _ _ e, hgp, hn, fun H3 Ta A W kp2 fT fA fW cl => ⟨rfl, ?_⟩⟩
  have s3 : Same H1 H3 := s2.trans (Same.made hp2 hdp kp2)
  have s03 := s1.trans s3
  have some3 : ∀ x ∈ [p, g, Ta, A, W], ∃ o, H3 x = some o := fun x h => by
    obtain ⟨_, c1⟩ := cl.ins
    obtain ⟨_, c2⟩ := cl.gr
    simp only [List.mem_cons, List.not_mem_nil, or_false] at h
    rcases h with rfl | rfl | rfl | rfl | rfl
    · exact ⟨_, c1⟩
    · exact ⟨_, c2⟩
    · exact ⟨_, cl.tt⟩
    · exact ⟨_, cl.aa.at_⟩
    · exact ⟨_, cl.ww⟩
  have non1 : ∀ x ∈ [p, Ta, A, W], H1 x = none := fun x h => by
    simp only [List.mem_cons, List.not_mem_nil, or_false] at h
    rcases h with rfl | rfl | rfl | rfl
    · exact same_none s2 hp2
    · exact same_none s2 (same_none mk fT)
    · exact same_none s2 (same_none mk fA)
    · exact same_none s2 (same_none mk fW)
  have out : ∀ {H' : Hp} {y : Addr}, Same H3 H' → H' y = none → ∀ x ∈ [p, g, Ta, A, W], x ≠ y := fun {H' y} s z x h e => by
    obtain ⟨o, eo⟩ := some3 x h
    rw [e] at eo
    rw [s _ _ eo] at z; cases z
  walk_at "rds"
  intro Tb hTb
  have oT := out (Same.refl _) hTb
  have sT : Same H3 (upd H3 Tb (.lst [])) := same_upd hTb
  have eT : upd H3 Tb (.lst []) Tb = some (.lst []) := upd_same
  have n1 := same_none s3 hTb
  generalize upd H3 Tb (.lst []) = H4 at sT eT
  walk_at "rds"
  intro B hB
  have oB := out sT hB
  have nTB : Tb ≠ B := ne_of_none eT hB
  have n2 := same_none (s3.trans sT) hB
  have sB : Same H4 (upd H4 B (.lst [])) := same_upd hB
  have eB : upd H4 B (.lst []) B = some (.lst []) := upd_same
  have eT := sB _ _ eT
  have sB := sT.trans sB
  generalize upd H4 B (.lst []) = H5 at sB eB eT
  walk_at "rds"
  intro X hX
  have oX := out sB hX
  have n3 := same_none (s3.trans sB) hX
  have sX : Same H5 (upd H5 X (.dK [])) := same_upd hX
  have eX : upd H5 X (.dK []) X = some (.dK []) := upd_same
  have eT := sX _ _ eT
  have eB := sX _ _ eB
  have sX := sB.trans sX
  generalize upd H5 X (.dK []) = H6 at sX eX eT eB
  walk_at "rds"
  intro M hM
  have oM := out sX hM
  have n4 := same_none (s3.trans sX) hM
  have nMT : M ≠ Tb := (ne_of_none eT hM).symm
  have nMB : M ≠ B := (ne_of_none eB hM).symm
  have sM : Same H6 (upd H6 M (.lst [.ref Tb, .ref B, .ref X])) := same_upd hM
  have eM : upd H6 M (.lst [.ref Tb, .ref B, .ref X]) M = some (.lst [.ref Tb, .ref B, .ref X]) := upd_same
  have eT := sM _ _ eT
  have eB := sM _ _ eB
  have eX := sM _ _ eX
  have sM := sX.trans sM
  generalize upd H6 M (.lst [V.ref Tb, .ref B, .ref X]) = H7 at sM eM eT eB eX
  have st : St C_Client C_Group K H7 p g Ta A W M Tb B X ⟨n, [], [], []⟩ [] [] :=
    { cl := cl.on sM
      mo := { mm := eM, tt := eT, aa := ⟨eB, .nil⟩, ww := eX, ta := nTB, mt := nMT, ma := nMB, ok := cl.ok }
      dj := fun x h h2 => by
        simp only [List.mem_cons, List.not_mem_nil, or_false] at h2
        rcases h2 with e | e | e | e
        · exact oM x h e
        · exact oT x h e
        · exact oB x h e
        · exact oX x h e }
  have s17 := s3.trans sM
  walk_at "rds"
  refine ⟨p, g, Ta, A, W, M, Tb, B, X, _, [], [], rfl, st, fun H8 s8 => ?_⟩
  have st := st.on s8
  have s18 := s17.trans s8
  walk_at "rds"
  refine ⟨a, _, rfl, .inl ((s1.trans s18).seq hS), ?_⟩
  rw [List.length_map]
  refine ⟨1, (ns.length : Int), rfl, ⟨by decide, by decide, by omega, by omega⟩, ?_⟩
  refine for_it walk_range (Pv := fun i σ' H' => ∃ W X m xs ys y5, σ' = [some (.ref a), some (.int n), some (.int (3 * (n : Int) + 1)), some (.ref p), some (.ref M), y5] ∧ Same H1 H' ∧ (∀ x ∈ [p, Ta, A, W, M, Tb, B, X], H1 x = none) ∧ St C_Client C_Group K H' p g Ta A W M Tb B X m xs ys ∧ m.n = n ∧ m.ts.length ≤ i ∧ m.an.length ≤ i) ⟨W, X, _, _, _, none, rfl, s18, ?_, st, rfl, Nat.le_refl _, Nat.le_refl _⟩ (fun _ _ _ _ _ => trivial) (fun i x σ' Ha Hb hi hp hy => ?_) (fun σ' Ha hp => ?_)
  · intro x h
    simp only [List.mem_cons, List.not_mem_nil, or_false] at h
    rcases h with e | e | e | e | e | e | e | e
    · rw [e]; exact non1 _ (by simp)
    · rw [e]; exact non1 _ (by simp)
    · rw [e]; exact non1 _ (by simp)
    · rw [e]; exact non1 _ (by simp)
    · rw [e]; exact n4
    · rw [e]; exact n1
    · rw [e]; exact n2
    · rw [e]; exact n3
  · obtain ⟨W, X, m, xs, ys, y5, rfl, sh, non, st, en, lt, ln⟩ := hp
    obtain ⟨rfl, hx⟩ := hy
    obtain rfl : x = V.int ((1 + i : Nat) : Int) := hx.trans (congrArg V.int (by omega))
    clear hx
    have hi2 : 1 + i < ns.length := by omega
    walk_at "rds"
    refine ⟨a, _, _, _, rfl, rfl, (s1.trans sh).seq hS, atI_nat (by rw [List.getElem?_map, List.getElem?_eq_getElem hi2]; rfl), ?_⟩
    walk_at "rds"
    refine ⟨_, _, rfl, by omega, by omega, fun r => ?_⟩
    walk_at "rds"
    refine ⟨p, g, Ta, A, W, M, Tb, B, X, m, xs, ys, r, by rw [en]; rfl, st, by omega, by omega, fun H' W1 X1 m' xs' ys' bt hW hX st' en' lt' ln' => ?_⟩
    have sh' : Same H1 H' := fun b o e => bt b o (fun h => by rw [non b h] at e; cases e) (sh b o e)
    walk_at "rds"
    refine ⟨p, g, Ta, A, W1, M, Tb, B, X1, m', xs', ys', rfl, st', fun H'' s'' => ?_⟩
    walk_at "rds"
    refine ⟨W1, X1, m', xs', ys', _, rfl, sh'.trans s'', fun x h => ?_, st'.on s'', en'.trans en, by omega, by omega⟩
    simp only [List.mem_cons, List.not_mem_nil, or_false] at h
    rcases h with e | e | e | e | e | e | e | e
    · rw [e]; exact non _ (by simp)
    · rw [e]; exact non _ (by simp)
    · rw [e]; exact non _ (by simp)
    · rw [e]
      rcases hW with w | w
      · rw [w]; exact non _ (by simp)
      · exact same_none sh w
    · rw [e]; exact non _ (by simp)
    · rw [e]; exact non _ (by simp)
    · rw [e]; exact non _ (by simp)
    · rw [e]
      rcases hX with w | w
      · rw [w]; exact non _ (by simp)
      · exact same_none sh w
  · obtain ⟨W, X, m, xs, ys, y5, rfl, sh, non, st, en, lt, ln⟩ := hp
    walk_at "rds"
    exact q _
end

theorem fin {C_Client : Addr} {C_Group : Addr} {C_BadGroup : Addr} {C_FORMS : Addr} {P : Program} {w : World} {K : PySem.W.Frag} {mg : Str → Option Value} {fa : Addr} (hfa : mg "law" = some (.ref fa)) (T : Txt K mg w C_Client C_Group C_BadGroup C_FORMS) :
    ∃ fd : FuncData, (∀ (s : Shared) (u : Value), BindsTo s fd ⟨[u], []⟩ [("script", u)]) ∧ ∀ base : Heap, K.In base → base.Ns mainGlobals mg → FnOk P w K mg base L2.CX0 8 fa fd ["script"] (spLaw K) := by
  obtain ⟨f, fd, F, hm, b⟩ := T.d_law.ex
  cases hfa.symm.trans hm
  refine ⟨fd, fun s u => ?_, fun base _ _ => ok_law F T⟩
  obtain ⟨oc, od, kV, doc, pm, an, cdv, ct, osl, rfl, l, _⟩ := F.ex
  exact .of_eq rfl

theorem all_mk {K : PySem.W.Frag} {h : Heap} {mg : Str → Option Value} {w : World} (X : K.In h) (G : h.Ns mainGlobals mg)
    {f_is_integer : Addr} {od_is_integer an_is_integer : Option Addr} {sl_is_integer : Array (Option Value)} {oc_is_integer kV_is_integer dc_is_integer pm_is_integer cd_is_integer ct_is_integer : Value}
    {f_is_printable : Addr} {od_is_printable an_is_printable : Option Addr} {sl_is_printable : Array (Option Value)} {oc_is_printable kV_is_printable dc_is_printable pm_is_printable cd_is_printable ct_is_printable : Value}
    {f_is_short : Addr} {od_is_short an_is_short : Option Addr} {sl_is_short : Array (Option Value)} {oc_is_short kV_is_short dc_is_short pm_is_short cd_is_short ct_is_short : Value}
    {f_is_number : Addr} {od_is_number an_is_number : Option Addr} {sl_is_number : Array (Option Value)} {oc_is_number kV_is_number dc_is_number pm_is_number cd_is_number ct_is_number : Value}
    {f_holds_request : Addr} {od_holds_request an_holds_request : Option Addr} {sl_holds_request : Array (Option Value)} {oc_holds_request kV_holds_request dc_holds_request pm_holds_request cd_holds_request ct_holds_request : Value}
    {f_holds_answer : Addr} {od_holds_answer an_holds_answer : Option Addr} {sl_holds_answer : Array (Option Value)} {oc_holds_answer kV_holds_answer dc_holds_answer pm_holds_answer cd_holds_answer ct_holds_answer : Value}
    {f_is_letter : Addr} {od_is_letter an_is_letter : Option Addr} {sl_is_letter : Array (Option Value)} {oc_is_letter kV_is_letter dc_is_letter pm_is_letter cd_is_letter ct_is_letter : Value}
    {f__law_rich : Addr} {od__law_rich an__law_rich : Option Addr} {sl__law_rich : Array (Option Value)} {oc__law_rich kV__law_rich dc__law_rich pm__law_rich cd__law_rich ct__law_rich : Value}
    {f__law_letters : Addr} {od__law_letters an__law_letters : Option Addr} {sl__law_letters : Array (Option Value)} {oc__law_letters kV__law_letters dc__law_letters pm__law_letters cd__law_letters ct__law_letters : Value}
    {f__law_receive : Addr} {od__law_receive an__law_receive : Option Addr} {sl__law_receive : Array (Option Value)} {oc__law_receive kV__law_receive dc__law_receive pm__law_receive cd__law_receive ct__law_receive : Value}
    {f__law_call : Addr} {od__law_call an__law_call : Option Addr} {sl__law_call : Array (Option Value)} {oc__law_call kV__law_call dc__law_call pm__law_call cd__law_call ct__law_call : Value}
    {f__law_same : Addr} {od__law_same an__law_same : Option Addr} {sl__law_same : Array (Option Value)} {oc__law_same kV__law_same dc__law_same pm__law_same cd__law_same ct__law_same : Value}
    {f_law : Addr} {od_law an_law : Option Addr} {sl_law : Array (Option Value)} {oc_law kV_law dc_law pm_law cd_law ct_law : Value}
    {C_Client : Addr}
    {f_Client____init__ : Addr} {od_Client____init__ an_Client____init__ : Option Addr} {sl_Client____init__ : Array (Option Value)} {oc_Client____init__ kV_Client____init__ dc_Client____init__ pm_Client____init__ cd_Client____init__ ct_Client____init__ : Value}
    {f_Client__submit : Addr} {od_Client__submit an_Client__submit : Option Addr} {sl_Client__submit : Array (Option Value)} {oc_Client__submit kV_Client__submit dc_Client__submit pm_Client__submit cd_Client__submit ct_Client__submit : Value}
    {f_Client__tick : Addr} {od_Client__tick an_Client__tick : Option Addr} {sl_Client__tick : Array (Option Value)} {oc_Client__tick kV_Client__tick dc_Client__tick pm_Client__tick cd_Client__tick ct_Client__tick : Value}
    {f_Client__receive : Addr} {od_Client__receive an_Client__receive : Option Addr} {sl_Client__receive : Array (Option Value)} {oc_Client__receive kV_Client__receive dc_Client__receive pm_Client__receive cd_Client__receive ct_Client__receive : Value}
    {f_Client__pending : Addr} {od_Client__pending an_Client__pending : Option Addr} {sl_Client__pending : Array (Option Value)} {oc_Client__pending kV_Client__pending dc_Client__pending pm_Client__pending cd_Client__pending ct_Client__pending : Value}
    {f_Client__accepted : Addr} {od_Client__accepted an_Client__accepted : Option Addr} {sl_Client__accepted : Array (Option Value)} {oc_Client__accepted kV_Client__accepted dc_Client__accepted pm_Client__accepted cd_Client__accepted ct_Client__accepted : Value}
    {f_Client__waiting : Addr} {od_Client__waiting an_Client__waiting : Option Addr} {sl_Client__waiting : Array (Option Value)} {oc_Client__waiting kV_Client__waiting dc_Client__waiting pm_Client__waiting cd_Client__waiting ct_Client__waiting : Value}
    {C_Group : Addr}
    {f_Group____init__ : Addr} {od_Group____init__ an_Group____init__ : Option Addr} {sl_Group____init__ : Array (Option Value)} {oc_Group____init__ kV_Group____init__ dc_Group____init__ pm_Group____init__ cd_Group____init__ ct_Group____init__ : Value}
    {f_Group__members : Addr} {od_Group__members an_Group__members : Option Addr} {sl_Group__members : Array (Option Value)} {oc_Group__members kV_Group__members dc_Group__members pm_Group__members cd_Group__members ct_Group__members : Value}
    {f_Group__is_member : Addr} {od_Group__is_member an_Group__is_member : Option Addr} {sl_Group__is_member : Array (Option Value)} {oc_Group__is_member kV_Group__is_member dc_Group__is_member pm_Group__is_member cd_Group__is_member ct_Group__is_member : Value}
    {C_BadGroup : Addr}
    {C_FORMS : Addr} {es_FORMS : Array DictEntry} {n_FORMS : Nat}
    {t_MOST_ANSWER : Tok}
    {t_MOST_FAULTS : Tok}
    {t_MOST_NUMBER : Tok}
    {t_MOST_TEXT : Tok}
    (a_is_integer : PySem.W.nsIn K mainGlobals "is_integer" = some (some (.ref f_is_integer)))
    (l_is_integer : K.lookup f_is_integer = some ⟨oc_is_integer, od_is_integer, .func (PySem.W.fnOf "is_integer" "is_integer" (defArgs s_is_integer) (defBody s_is_integer) (defScope s_is_integer) .none kV_is_integer dc_is_integer pm_is_integer an_is_integer cd_is_integer ct_is_integer), sl_is_integer⟩)
    (e_is_integer : PySem.W.codeIn K cd_is_integer "is_integer" = true)
    (k_is_integer : PySem.W.keepIn K (.ref f_is_integer) = true)
    (a_is_printable : PySem.W.nsIn K mainGlobals "is_printable" = some (some (.ref f_is_printable)))
    (l_is_printable : K.lookup f_is_printable = some ⟨oc_is_printable, od_is_printable, .func (PySem.W.fnOf "is_printable" "is_printable" (defArgs s_is_printable) (defBody s_is_printable) (defScope s_is_printable) .none kV_is_printable dc_is_printable pm_is_printable an_is_printable cd_is_printable ct_is_printable), sl_is_printable⟩)
    (e_is_printable : PySem.W.codeIn K cd_is_printable "is_printable" = true)
    (k_is_printable : PySem.W.keepIn K (.ref f_is_printable) = true)
    (a_is_short : PySem.W.nsIn K mainGlobals "is_short" = some (some (.ref f_is_short)))
    (l_is_short : K.lookup f_is_short = some ⟨oc_is_short, od_is_short, .func (PySem.W.fnOf "is_short" "is_short" (defArgs s_is_short) (defBody s_is_short) (defScope s_is_short) .none kV_is_short dc_is_short pm_is_short an_is_short cd_is_short ct_is_short), sl_is_short⟩)
    (e_is_short : PySem.W.codeIn K cd_is_short "is_short" = true)
    (k_is_short : PySem.W.keepIn K (.ref f_is_short) = true)
    (a_is_number : PySem.W.nsIn K mainGlobals "is_number" = some (some (.ref f_is_number)))
    (l_is_number : K.lookup f_is_number = some ⟨oc_is_number, od_is_number, .func (PySem.W.fnOf "is_number" "is_number" (defArgs s_is_number) (defBody s_is_number) (defScope s_is_number) .none kV_is_number dc_is_number pm_is_number an_is_number cd_is_number ct_is_number), sl_is_number⟩)
    (e_is_number : PySem.W.codeIn K cd_is_number "is_number" = true)
    (k_is_number : PySem.W.keepIn K (.ref f_is_number) = true)
    (a_holds_request : PySem.W.nsIn K mainGlobals "holds_request" = some (some (.ref f_holds_request)))
    (l_holds_request : K.lookup f_holds_request = some ⟨oc_holds_request, od_holds_request, .func (PySem.W.fnOf "holds_request" "holds_request" (defArgs s_holds_request) (defBody s_holds_request) (defScope s_holds_request) .none kV_holds_request dc_holds_request pm_holds_request an_holds_request cd_holds_request ct_holds_request), sl_holds_request⟩)
    (e_holds_request : PySem.W.codeIn K cd_holds_request "holds_request" = true)
    (k_holds_request : PySem.W.keepIn K (.ref f_holds_request) = true)
    (a_holds_answer : PySem.W.nsIn K mainGlobals "holds_answer" = some (some (.ref f_holds_answer)))
    (l_holds_answer : K.lookup f_holds_answer = some ⟨oc_holds_answer, od_holds_answer, .func (PySem.W.fnOf "holds_answer" "holds_answer" (defArgs s_holds_answer) (defBody s_holds_answer) (defScope s_holds_answer) .none kV_holds_answer dc_holds_answer pm_holds_answer an_holds_answer cd_holds_answer ct_holds_answer), sl_holds_answer⟩)
    (e_holds_answer : PySem.W.codeIn K cd_holds_answer "holds_answer" = true)
    (k_holds_answer : PySem.W.keepIn K (.ref f_holds_answer) = true)
    (a_is_letter : PySem.W.nsIn K mainGlobals "is_letter" = some (some (.ref f_is_letter)))
    (l_is_letter : K.lookup f_is_letter = some ⟨oc_is_letter, od_is_letter, .func (PySem.W.fnOf "is_letter" "is_letter" (defArgs s_is_letter) (defBody s_is_letter) (defScope s_is_letter) .none kV_is_letter dc_is_letter pm_is_letter an_is_letter cd_is_letter ct_is_letter), sl_is_letter⟩)
    (e_is_letter : PySem.W.codeIn K cd_is_letter "is_letter" = true)
    (k_is_letter : PySem.W.keepIn K (.ref f_is_letter) = true)
    (a__law_rich : PySem.W.nsIn K mainGlobals "_law_rich" = some (some (.ref f__law_rich)))
    (l__law_rich : K.lookup f__law_rich = some ⟨oc__law_rich, od__law_rich, .func (PySem.W.fnOf "_law_rich" "_law_rich" (defArgs s__law_rich) (defBody s__law_rich) (defScope s__law_rich) .none kV__law_rich dc__law_rich pm__law_rich an__law_rich cd__law_rich ct__law_rich), sl__law_rich⟩)
    (e__law_rich : PySem.W.codeIn K cd__law_rich "_law_rich" = true)
    (k__law_rich : PySem.W.keepIn K (.ref f__law_rich) = true)
    (a__law_letters : PySem.W.nsIn K mainGlobals "_law_letters" = some (some (.ref f__law_letters)))
    (l__law_letters : K.lookup f__law_letters = some ⟨oc__law_letters, od__law_letters, .func (PySem.W.fnOf "_law_letters" "_law_letters" (defArgs s__law_letters) (defBody s__law_letters) (defScope s__law_letters) .none kV__law_letters dc__law_letters pm__law_letters an__law_letters cd__law_letters ct__law_letters), sl__law_letters⟩)
    (e__law_letters : PySem.W.codeIn K cd__law_letters "_law_letters" = true)
    (k__law_letters : PySem.W.keepIn K (.ref f__law_letters) = true)
    (a__law_receive : PySem.W.nsIn K mainGlobals "_law_receive" = some (some (.ref f__law_receive)))
    (l__law_receive : K.lookup f__law_receive = some ⟨oc__law_receive, od__law_receive, .func (PySem.W.fnOf "_law_receive" "_law_receive" (defArgs s__law_receive) (defBody s__law_receive) (defScope s__law_receive) .none kV__law_receive dc__law_receive pm__law_receive an__law_receive cd__law_receive ct__law_receive), sl__law_receive⟩)
    (e__law_receive : PySem.W.codeIn K cd__law_receive "_law_receive" = true)
    (k__law_receive : PySem.W.keepIn K (.ref f__law_receive) = true)
    (a__law_call : PySem.W.nsIn K mainGlobals "_law_call" = some (some (.ref f__law_call)))
    (l__law_call : K.lookup f__law_call = some ⟨oc__law_call, od__law_call, .func (PySem.W.fnOf "_law_call" "_law_call" (defArgs s__law_call) (defBody s__law_call) (defScope s__law_call) .none kV__law_call dc__law_call pm__law_call an__law_call cd__law_call ct__law_call), sl__law_call⟩)
    (e__law_call : PySem.W.codeIn K cd__law_call "_law_call" = true)
    (k__law_call : PySem.W.keepIn K (.ref f__law_call) = true)
    (a__law_same : PySem.W.nsIn K mainGlobals "_law_same" = some (some (.ref f__law_same)))
    (l__law_same : K.lookup f__law_same = some ⟨oc__law_same, od__law_same, .func (PySem.W.fnOf "_law_same" "_law_same" (defArgs s__law_same) (defBody s__law_same) (defScope s__law_same) .none kV__law_same dc__law_same pm__law_same an__law_same cd__law_same ct__law_same), sl__law_same⟩)
    (e__law_same : PySem.W.codeIn K cd__law_same "_law_same" = true)
    (k__law_same : PySem.W.keepIn K (.ref f__law_same) = true)
    (a_law : PySem.W.nsIn K mainGlobals "law" = some (some (.ref f_law)))
    (l_law : K.lookup f_law = some ⟨oc_law, od_law, .func (PySem.W.fnOf "law" "law" (defArgs s_law) (defBody s_law) (defScope s_law) .none kV_law dc_law pm_law an_law cd_law ct_law), sl_law⟩)
    (e_law : PySem.W.codeIn K cd_law "law" = true)
    (k_law : PySem.W.keepIn K (.ref f_law) = true)
    (ac_Client : PySem.W.nsIn K mainGlobals "Client" = some (some (.ref C_Client)))
    (pg_Client : PySem.W.plainGet K C_Client Str.empty = true)
    (hd_Client : PySem.W.hasDictIn K C_Client = true)
    (po_Client : PySem.W.plainOver K C_Client = true)
    (sa_Client : PySem.W.findIn K (.ref C_Client) "__setattr__" = some (some (.builtin "object.__setattr__")))
    (mk_Client : PySem.W.makesIn K C_Client = true)
    (kc_Client : PySem.W.keepIn K (.ref C_Client) = true)
    (na_Client__group : PySem.W.findIn K (.ref C_Client) "_group" = some none)
    (na_Client__name : PySem.W.findIn K (.ref C_Client) "_name" = some none)
    (na_Client__texts : PySem.W.findIn K (.ref C_Client) "_texts" = some none)
    (na_Client__accepted : PySem.W.findIn K (.ref C_Client) "_accepted" = some none)
    (na_Client__answers : PySem.W.findIn K (.ref C_Client) "_answers" = some none)
    (a_Client____init__ : PySem.W.findIn K (.ref C_Client) "__init__" = some (some (.ref f_Client____init__)))
    (i_Client____init__ : PySem.W.isFn K (.ref f_Client____init__) = true)
    (l_Client____init__ : K.lookup f_Client____init__ = some ⟨oc_Client____init__, od_Client____init__, .func (PySem.W.fnOf "__init__" "Client.__init__" (defArgs s_Client____init__) (defBody s_Client____init__) (defScope s_Client____init__) .none kV_Client____init__ dc_Client____init__ pm_Client____init__ an_Client____init__ cd_Client____init__ ct_Client____init__), sl_Client____init__⟩)
    (e_Client____init__ : PySem.W.codeIn K cd_Client____init__ "Client.__init__" = true)
    (k_Client____init__ : PySem.W.keepIn K (.ref f_Client____init__) = true)
    (a_Client__submit : PySem.W.findIn K (.ref C_Client) "submit" = some (some (.ref f_Client__submit)))
    (i_Client__submit : PySem.W.isFn K (.ref f_Client__submit) = true)
    (l_Client__submit : K.lookup f_Client__submit = some ⟨oc_Client__submit, od_Client__submit, .func (PySem.W.fnOf "submit" "Client.submit" (defArgs s_Client__submit) (defBody s_Client__submit) (defScope s_Client__submit) .none kV_Client__submit dc_Client__submit pm_Client__submit an_Client__submit cd_Client__submit ct_Client__submit), sl_Client__submit⟩)
    (e_Client__submit : PySem.W.codeIn K cd_Client__submit "Client.submit" = true)
    (k_Client__submit : PySem.W.keepIn K (.ref f_Client__submit) = true)
    (a_Client__tick : PySem.W.findIn K (.ref C_Client) "tick" = some (some (.ref f_Client__tick)))
    (i_Client__tick : PySem.W.isFn K (.ref f_Client__tick) = true)
    (l_Client__tick : K.lookup f_Client__tick = some ⟨oc_Client__tick, od_Client__tick, .func (PySem.W.fnOf "tick" "Client.tick" (defArgs s_Client__tick) (defBody s_Client__tick) (defScope s_Client__tick) .none kV_Client__tick dc_Client__tick pm_Client__tick an_Client__tick cd_Client__tick ct_Client__tick), sl_Client__tick⟩)
    (e_Client__tick : PySem.W.codeIn K cd_Client__tick "Client.tick" = true)
    (k_Client__tick : PySem.W.keepIn K (.ref f_Client__tick) = true)
    (a_Client__receive : PySem.W.findIn K (.ref C_Client) "receive" = some (some (.ref f_Client__receive)))
    (i_Client__receive : PySem.W.isFn K (.ref f_Client__receive) = true)
    (l_Client__receive : K.lookup f_Client__receive = some ⟨oc_Client__receive, od_Client__receive, .func (PySem.W.fnOf "receive" "Client.receive" (defArgs s_Client__receive) (defBody s_Client__receive) (defScope s_Client__receive) .none kV_Client__receive dc_Client__receive pm_Client__receive an_Client__receive cd_Client__receive ct_Client__receive), sl_Client__receive⟩)
    (e_Client__receive : PySem.W.codeIn K cd_Client__receive "Client.receive" = true)
    (k_Client__receive : PySem.W.keepIn K (.ref f_Client__receive) = true)
    (a_Client__pending : PySem.W.findIn K (.ref C_Client) "pending" = some (some (.ref f_Client__pending)))
    (i_Client__pending : PySem.W.isFn K (.ref f_Client__pending) = true)
    (l_Client__pending : K.lookup f_Client__pending = some ⟨oc_Client__pending, od_Client__pending, .func (PySem.W.fnOf "pending" "Client.pending" (defArgs s_Client__pending) (defBody s_Client__pending) (defScope s_Client__pending) .none kV_Client__pending dc_Client__pending pm_Client__pending an_Client__pending cd_Client__pending ct_Client__pending), sl_Client__pending⟩)
    (e_Client__pending : PySem.W.codeIn K cd_Client__pending "Client.pending" = true)
    (k_Client__pending : PySem.W.keepIn K (.ref f_Client__pending) = true)
    (a_Client__accepted : PySem.W.findIn K (.ref C_Client) "accepted" = some (some (.ref f_Client__accepted)))
    (i_Client__accepted : PySem.W.isFn K (.ref f_Client__accepted) = true)
    (l_Client__accepted : K.lookup f_Client__accepted = some ⟨oc_Client__accepted, od_Client__accepted, .func (PySem.W.fnOf "accepted" "Client.accepted" (defArgs s_Client__accepted) (defBody s_Client__accepted) (defScope s_Client__accepted) .none kV_Client__accepted dc_Client__accepted pm_Client__accepted an_Client__accepted cd_Client__accepted ct_Client__accepted), sl_Client__accepted⟩)
    (e_Client__accepted : PySem.W.codeIn K cd_Client__accepted "Client.accepted" = true)
    (k_Client__accepted : PySem.W.keepIn K (.ref f_Client__accepted) = true)
    (a_Client__waiting : PySem.W.findIn K (.ref C_Client) "waiting" = some (some (.ref f_Client__waiting)))
    (i_Client__waiting : PySem.W.isFn K (.ref f_Client__waiting) = true)
    (l_Client__waiting : K.lookup f_Client__waiting = some ⟨oc_Client__waiting, od_Client__waiting, .func (PySem.W.fnOf "waiting" "Client.waiting" (defArgs s_Client__waiting) (defBody s_Client__waiting) (defScope s_Client__waiting) .none kV_Client__waiting dc_Client__waiting pm_Client__waiting an_Client__waiting cd_Client__waiting ct_Client__waiting), sl_Client__waiting⟩)
    (e_Client__waiting : PySem.W.codeIn K cd_Client__waiting "Client.waiting" = true)
    (k_Client__waiting : PySem.W.keepIn K (.ref f_Client__waiting) = true)
    (ac_Group : PySem.W.nsIn K mainGlobals "Group" = some (some (.ref C_Group)))
    (pg_Group : PySem.W.plainGet K C_Group Str.empty = true)
    (hd_Group : PySem.W.hasDictIn K C_Group = true)
    (po_Group : PySem.W.plainOver K C_Group = true)
    (sa_Group : PySem.W.findIn K (.ref C_Group) "__setattr__" = some (some (.builtin "object.__setattr__")))
    (mk_Group : PySem.W.makesIn K C_Group = true)
    (kc_Group : PySem.W.keepIn K (.ref C_Group) = true)
    (na_Group_faults : PySem.W.findIn K (.ref C_Group) "faults" = some none)
    (na_Group_machines : PySem.W.findIn K (.ref C_Group) "machines" = some none)
    (na_Group_quorum : PySem.W.findIn K (.ref C_Group) "quorum" = some none)
    (na_Group_blocking : PySem.W.findIn K (.ref C_Group) "blocking" = some none)
    (a_Group____init__ : PySem.W.findIn K (.ref C_Group) "__init__" = some (some (.ref f_Group____init__)))
    (i_Group____init__ : PySem.W.isFn K (.ref f_Group____init__) = true)
    (l_Group____init__ : K.lookup f_Group____init__ = some ⟨oc_Group____init__, od_Group____init__, .func (PySem.W.fnOf "__init__" "Group.__init__" (defArgs s_Group____init__) (defBody s_Group____init__) (defScope s_Group____init__) .none kV_Group____init__ dc_Group____init__ pm_Group____init__ an_Group____init__ cd_Group____init__ ct_Group____init__), sl_Group____init__⟩)
    (e_Group____init__ : PySem.W.codeIn K cd_Group____init__ "Group.__init__" = true)
    (k_Group____init__ : PySem.W.keepIn K (.ref f_Group____init__) = true)
    (a_Group__members : PySem.W.findIn K (.ref C_Group) "members" = some (some (.ref f_Group__members)))
    (i_Group__members : PySem.W.isFn K (.ref f_Group__members) = true)
    (l_Group__members : K.lookup f_Group__members = some ⟨oc_Group__members, od_Group__members, .func (PySem.W.fnOf "members" "Group.members" (defArgs s_Group__members) (defBody s_Group__members) (defScope s_Group__members) .none kV_Group__members dc_Group__members pm_Group__members an_Group__members cd_Group__members ct_Group__members), sl_Group__members⟩)
    (e_Group__members : PySem.W.codeIn K cd_Group__members "Group.members" = true)
    (k_Group__members : PySem.W.keepIn K (.ref f_Group__members) = true)
    (a_Group__is_member : PySem.W.findIn K (.ref C_Group) "is_member" = some (some (.ref f_Group__is_member)))
    (i_Group__is_member : PySem.W.isFn K (.ref f_Group__is_member) = true)
    (l_Group__is_member : K.lookup f_Group__is_member = some ⟨oc_Group__is_member, od_Group__is_member, .func (PySem.W.fnOf "is_member" "Group.is_member" (defArgs s_Group__is_member) (defBody s_Group__is_member) (defScope s_Group__is_member) .none kV_Group__is_member dc_Group__is_member pm_Group__is_member an_Group__is_member cd_Group__is_member ct_Group__is_member), sl_Group__is_member⟩)
    (e_Group__is_member : PySem.W.codeIn K cd_Group__is_member "Group.is_member" = true)
    (k_Group__is_member : PySem.W.keepIn K (.ref f_Group__is_member) = true)
    (xa_BadGroup : PySem.W.nsIn K mainGlobals "BadGroup" = some (some (.ref C_BadGroup)))
    (xe_BadGroup : PySem.W.excIn K C_BadGroup [.type "ValueError", .type "Exception", .type "BaseException", .type "object"] "ValueError.__new__" = true)
    (xk_BadGroup : PySem.W.keepIn K (.ref C_BadGroup) = true)
    (xb_BadGroup : PySem.W.subIn K (.ref C_BadGroup) (.type "BaseException") = some true)
    (xt_BadGroup : PySem.W.typeIn K (.ref C_BadGroup) = some (.type "type"))
    (xh_BadGroup : PySem.W.hasDictIn K C_BadGroup = true)
    (a_FORMS : PySem.W.nsIn K mainGlobals "FORMS" = some (some (.ref C_FORMS)))
    (l_FORMS : K.lookup C_FORMS = some ⟨.type "dict", none, .dict es_FORMS n_FORMS, #[]⟩)
    (kl_FORMS : PySem.W.KeysLit w.params es_FORMS.toList)
    (lo_FORMS : (C_FORMS == sysModules) = false)
    (vf_FORMS_answer : PySem.W.nsIn K C_FORMS "answer" = some (some (.ref f_holds_answer)))
    (vf_FORMS_command : PySem.W.nsIn K C_FORMS "command" = some (some (.ref f_holds_request)))
    (u_BadGroup_BadGroup : PySem.W.subIn K (.ref C_BadGroup) (.ref C_BadGroup) = some true)
    (a_MOST_ANSWER : PySem.W.nsIn K mainGlobals "MOST_ANSWER" = some (some (.int 200 t_MOST_ANSWER)))
    (a_MOST_FAULTS : PySem.W.nsIn K mainGlobals "MOST_FAULTS" = some (some (.int 10 t_MOST_FAULTS)))
    (a_MOST_NUMBER : PySem.W.nsIn K mainGlobals "MOST_NUMBER" = some (some (.int 1000000000000 t_MOST_NUMBER)))
    (a_MOST_TEXT : PySem.W.nsIn K mainGlobals "MOST_TEXT" = some (some (.int 240 t_MOST_TEXT)))
    (z_bool : PySem.W.nsIn K mainGlobals "bool" = some none)
    (z_int : PySem.W.nsIn K mainGlobals "int" = some none)
    (z_isinstance : PySem.W.nsIn K mainGlobals "isinstance" = some none)
    (z_len : PySem.W.nsIn K mainGlobals "len" = some none)
    (z_list : PySem.W.nsIn K mainGlobals "list" = some none)
    (z_max : PySem.W.nsIn K mainGlobals "max" = some none)
    (z_range : PySem.W.nsIn K mainGlobals "range" = some none)
    (z_str : PySem.W.nsIn K mainGlobals "str" = some none)
    (z_tuple : PySem.W.nsIn K mainGlobals "tuple" = some none) : Txt K mg w C_Client C_Group C_BadGroup C_FORMS :=
  { d_is_integer := ⟨_, _, (fun_mk l_is_integer e_is_integer k_is_integer), PySem.W.mg_of X G a_is_integer, ((fun_mk (st := s_is_integer) l_is_integer e_is_integer k_is_integer).binds (ps := ["value", "least", "greatest"]) fun _ _ _ _ _ _ us hl => match us, hl with | [_, _, _], _ => rfl)⟩,
    d_is_printable := ⟨_, _, (fun_mk l_is_printable e_is_printable k_is_printable), PySem.W.mg_of X G a_is_printable, ((fun_mk (st := s_is_printable) l_is_printable e_is_printable k_is_printable).binds (ps := ["value"]) fun _ _ _ _ _ _ us hl => match us, hl with | [_], _ => rfl)⟩,
    d_is_short := ⟨_, _, (fun_mk l_is_short e_is_short k_is_short), PySem.W.mg_of X G a_is_short, ((fun_mk (st := s_is_short) l_is_short e_is_short k_is_short).binds (ps := ["value", "most"]) fun _ _ _ _ _ _ us hl => match us, hl with | [_, _], _ => rfl)⟩,
    d_is_number := ⟨_, _, (fun_mk l_is_number e_is_number k_is_number), PySem.W.mg_of X G a_is_number, ((fun_mk (st := s_is_number) l_is_number e_is_number k_is_number).binds (ps := ["value"]) fun _ _ _ _ _ _ us hl => match us, hl with | [_], _ => rfl)⟩,
    d_holds_request := ⟨_, _, (fun_mk l_holds_request e_holds_request k_holds_request), PySem.W.mg_of X G a_holds_request, ((fun_mk (st := s_holds_request) l_holds_request e_holds_request k_holds_request).binds (ps := ["parts"]) fun _ _ _ _ _ _ us hl => match us, hl with | [_], _ => rfl)⟩,
    d_holds_answer := ⟨_, _, (fun_mk l_holds_answer e_holds_answer k_holds_answer), PySem.W.mg_of X G a_holds_answer, ((fun_mk (st := s_holds_answer) l_holds_answer e_holds_answer k_holds_answer).binds (ps := ["parts"]) fun _ _ _ _ _ _ us hl => match us, hl with | [_], _ => rfl)⟩,
    d_is_letter := ⟨_, _, (fun_mk l_is_letter e_is_letter k_is_letter), PySem.W.mg_of X G a_is_letter, ((fun_mk (st := s_is_letter) l_is_letter e_is_letter k_is_letter).binds (ps := ["value"]) fun _ _ _ _ _ _ us hl => match us, hl with | [_], _ => rfl)⟩,
    d__law_rich := ⟨_, _, (fun_mk l__law_rich e__law_rich k__law_rich), PySem.W.mg_of X G a__law_rich, ((fun_mk (st := s__law_rich) l__law_rich e__law_rich k__law_rich).binds (ps := ["cell", "k"]) fun _ _ _ _ _ _ us hl => match us, hl with | [_, _], _ => rfl)⟩,
    d__law_letters := ⟨_, _, (fun_mk l__law_letters e__law_letters k__law_letters), PySem.W.mg_of X G a__law_letters, ((fun_mk (st := s__law_letters) l__law_letters e__law_letters k__law_letters).binds (ps := ["model", "machines"]) fun _ _ _ _ _ _ us hl => match us, hl with | [_, _], _ => rfl)⟩,
    d__law_receive := ⟨_, _, (fun_mk l__law_receive e__law_receive k__law_receive), PySem.W.mg_of X G a__law_receive, ((fun_mk (st := s__law_receive) l__law_receive e__law_receive k__law_receive).binds (ps := ["model", "machines", "sender", "letter"]) fun _ _ _ _ _ _ us hl => match us, hl with | [_, _, _, _], _ => rfl)⟩,
    d__law_call := ⟨_, _, (fun_mk l__law_call e__law_call k__law_call), PySem.W.mg_of X G a__law_call, ((fun_mk (st := s__law_call) l__law_call e__law_call k__law_call).binds (ps := ["client", "model", "machines", "rich"]) fun _ _ _ _ _ _ us hl => match us, hl with | [_, _, _, _], _ => rfl)⟩,
    d__law_same := ⟨_, _, (fun_mk l__law_same e__law_same k__law_same), PySem.W.mg_of X G a__law_same, ((fun_mk (st := s__law_same) l__law_same e__law_same k__law_same).binds (ps := ["client", "model"]) fun _ _ _ _ _ _ us hl => match us, hl with | [_, _], _ => rfl)⟩,
    d_law := ⟨_, _, (fun_mk l_law e_law k_law), PySem.W.mg_of X G a_law, ((fun_mk (st := s_law) l_law e_law k_law).binds (ps := ["script"]) fun _ _ _ _ _ _ us hl => match us, hl with | [_], _ => rfl)⟩,
    cl_Client := ⟨pg_Client, hd_Client, po_Client, sa_Client⟩,
    g_Client := PySem.W.mg_of X G ac_Client,
    na_Client__group := na_Client__group,
    na_Client__name := na_Client__name,
    na_Client__texts := na_Client__texts,
    na_Client__accepted := na_Client__accepted,
    na_Client__answers := na_Client__answers,
    mk_Client := ⟨_, _, ⟨mk_Client, a_Client____init__, i_Client____init__, kc_Client⟩, (fun_mk l_Client____init__ e_Client____init__ k_Client____init__), ((fun_mk (st := s_Client____init__) l_Client____init__ e_Client____init__ k_Client____init__).binds (ps := ["self", "group", "name"]) fun _ _ _ _ _ _ us hl => match us, hl with | [_, _, _], _ => rfl)⟩,
    me_Client__submit := ⟨_, _, ⟨a_Client__submit, i_Client__submit, k_Client__submit⟩, (fun_mk l_Client__submit e_Client__submit k_Client__submit), ((fun_mk (st := s_Client__submit) l_Client__submit e_Client__submit k_Client__submit).binds (ps := ["self", "text"]) fun _ _ _ _ _ _ us hl => match us, hl with | [_, _], _ => rfl)⟩,
    me_Client__tick := ⟨_, _, ⟨a_Client__tick, i_Client__tick, k_Client__tick⟩, (fun_mk l_Client__tick e_Client__tick k_Client__tick), ((fun_mk (st := s_Client__tick) l_Client__tick e_Client__tick k_Client__tick).binds (ps := ["self"]) fun _ _ _ _ _ _ us hl => match us, hl with | [_], _ => rfl)⟩,
    me_Client__receive := ⟨_, _, ⟨a_Client__receive, i_Client__receive, k_Client__receive⟩, (fun_mk l_Client__receive e_Client__receive k_Client__receive), ((fun_mk (st := s_Client__receive) l_Client__receive e_Client__receive k_Client__receive).binds (ps := ["self", "sender", "letter"]) fun _ _ _ _ _ _ us hl => match us, hl with | [_, _, _], _ => rfl)⟩,
    me_Client__pending := ⟨_, _, ⟨a_Client__pending, i_Client__pending, k_Client__pending⟩, (fun_mk l_Client__pending e_Client__pending k_Client__pending), ((fun_mk (st := s_Client__pending) l_Client__pending e_Client__pending k_Client__pending).binds (ps := ["self"]) fun _ _ _ _ _ _ us hl => match us, hl with | [_], _ => rfl)⟩,
    me_Client__accepted := ⟨_, _, ⟨a_Client__accepted, i_Client__accepted, k_Client__accepted⟩, (fun_mk l_Client__accepted e_Client__accepted k_Client__accepted), ((fun_mk (st := s_Client__accepted) l_Client__accepted e_Client__accepted k_Client__accepted).binds (ps := ["self"]) fun _ _ _ _ _ _ us hl => match us, hl with | [_], _ => rfl)⟩,
    me_Client__waiting := ⟨_, _, ⟨a_Client__waiting, i_Client__waiting, k_Client__waiting⟩, (fun_mk l_Client__waiting e_Client__waiting k_Client__waiting), ((fun_mk (st := s_Client__waiting) l_Client__waiting e_Client__waiting k_Client__waiting).binds (ps := ["self"]) fun _ _ _ _ _ _ us hl => match us, hl with | [_], _ => rfl)⟩,
    cl_Group := ⟨pg_Group, hd_Group, po_Group, sa_Group⟩,
    g_Group := PySem.W.mg_of X G ac_Group,
    na_Group_faults := na_Group_faults,
    na_Group_machines := na_Group_machines,
    na_Group_quorum := na_Group_quorum,
    na_Group_blocking := na_Group_blocking,
    mk_Group := ⟨_, _, ⟨mk_Group, a_Group____init__, i_Group____init__, kc_Group⟩, (fun_mk l_Group____init__ e_Group____init__ k_Group____init__), ((fun_mk (st := s_Group____init__) l_Group____init__ e_Group____init__ k_Group____init__).binds (ps := ["self", "faults"]) fun _ _ _ _ _ _ us hl => match us, hl with | [_, _], _ => rfl)⟩,
    me_Group__members := ⟨_, _, ⟨a_Group__members, i_Group__members, k_Group__members⟩, (fun_mk l_Group__members e_Group__members k_Group__members), ((fun_mk (st := s_Group__members) l_Group__members e_Group__members k_Group__members).binds (ps := ["self"]) fun _ _ _ _ _ _ us hl => match us, hl with | [_], _ => rfl)⟩,
    me_Group__is_member := ⟨_, _, ⟨a_Group__is_member, i_Group__is_member, k_Group__is_member⟩, (fun_mk l_Group__is_member e_Group__is_member k_Group__is_member), ((fun_mk (st := s_Group__is_member) l_Group__is_member e_Group__is_member k_Group__is_member).binds (ps := ["self", "value"]) fun _ _ _ _ _ _ us hl => match us, hl with | [_, _], _ => rfl)⟩,
    x_BadGroup := ⟨xe_BadGroup, PySem.W.mg_of X G xa_BadGroup, xk_BadGroup, xb_BadGroup, xt_BadGroup, xh_BadGroup⟩,
    g_FORMS := PySem.W.mg_of X G a_FORMS,
    kd_FORMS := ⟨_, _, ⟨l_FORMS, kl_FORMS, lo_FORMS⟩⟩,
    kf_FORMS_answer := ⟨_, PySem.W.mg_of X G a_holds_answer, ⟨_, _, _, l_FORMS, kl_FORMS, vf_FORMS_answer, rfl⟩⟩,
    kf_FORMS_command := ⟨_, PySem.W.mg_of X G a_holds_request, ⟨_, _, _, l_FORMS, kl_FORMS, vf_FORMS_command, rfl⟩⟩,
    u_BadGroup_BadGroup := u_BadGroup_BadGroup,
    c_MOST_ANSWER := ⟨_, PySem.W.mg_of X G a_MOST_ANSWER, _, rfl⟩,
    c_MOST_FAULTS := ⟨_, PySem.W.mg_of X G a_MOST_FAULTS, _, rfl⟩,
    c_MOST_NUMBER := ⟨_, PySem.W.mg_of X G a_MOST_NUMBER, _, rfl⟩,
    c_MOST_TEXT := ⟨_, PySem.W.mg_of X G a_MOST_TEXT, _, rfl⟩,
    z_bool := PySem.W.mg_none_of X G z_bool,
    z_int := PySem.W.mg_none_of X G z_int,
    z_isinstance := PySem.W.mg_none_of X G z_isinstance,
    z_len := PySem.W.mg_none_of X G z_len,
    z_list := PySem.W.mg_none_of X G z_list,
    z_max := PySem.W.mg_none_of X G z_max,
    z_range := PySem.W.mg_none_of X G z_range,
    z_str := PySem.W.mg_none_of X G z_str,
    z_tuple := PySem.W.mg_none_of X G z_tuple }
end Law
open PySem PySem.W PyProof.Rows
set_option maxRecDepth 100000 in
set_option maxHeartbeats 0 in
theorem PySem.Challenge.cw_oathledger_k69_client_counts_answers_holds : PySem.Challenge.rw_oathledger_k69_client_counts_answers.Holds := by
  w_on; o_law; k_head; (case hw => w_witness2)
  k_fill
  refine L2.walk_of (l := PySem.Challenge.rw_oathledger_k69_client_counts_answers) (n := 63) (k := 8) (x := "script") (CX := fun _ => L2.CX0) (sp := fun w => Law.spLaw _) rfl (by decide) rfl ⟨rfl, by decide, by decide⟩ (fun w h Y => PySem.W.kIn_of Y) ?F (fun _ _ a ns hl _ hS => ⟨a, ns, rfl, hS, hl, fun _ => rfl⟩) (fun _ _ _ _ _ h => h)
  case F =>
    intro w mg fa h KX G hmg
    refine' Law.fin hmg (Law.all_mk KX G ?a_is_integer ?l_is_integer ?e_is_integer ?k_is_integer ?a_is_printable ?l_is_printable ?e_is_printable ?k_is_printable ?a_is_short ?l_is_short ?e_is_short ?k_is_short ?a_is_number ?l_is_number ?e_is_number ?k_is_number ?a_holds_request ?l_holds_request ?e_holds_request ?k_holds_request ?a_holds_answer ?l_holds_answer ?e_holds_answer ?k_holds_answer ?a_is_letter ?l_is_letter ?e_is_letter ?k_is_letter ?a__law_rich ?l__law_rich ?e__law_rich ?k__law_rich ?a__law_letters ?l__law_letters ?e__law_letters ?k__law_letters ?a__law_receive ?l__law_receive ?e__law_receive ?k__law_receive ?a__law_call ?l__law_call ?e__law_call ?k__law_call ?a__law_same ?l__law_same ?e__law_same ?k__law_same ?a_law ?l_law ?e_law ?k_law ?ac_Client ?pg_Client ?hd_Client ?po_Client ?sa_Client ?mk_Client ?kc_Client ?na_Client__group ?na_Client__name ?na_Client__texts ?na_Client__accepted ?na_Client__answers ?a_Client____init__ ?i_Client____init__ ?l_Client____init__ ?e_Client____init__ ?k_Client____init__ ?a_Client__submit ?i_Client__submit ?l_Client__submit ?e_Client__submit ?k_Client__submit ?a_Client__tick ?i_Client__tick ?l_Client__tick ?e_Client__tick ?k_Client__tick ?a_Client__receive ?i_Client__receive ?l_Client__receive ?e_Client__receive ?k_Client__receive ?a_Client__pending ?i_Client__pending ?l_Client__pending ?e_Client__pending ?k_Client__pending ?a_Client__accepted ?i_Client__accepted ?l_Client__accepted ?e_Client__accepted ?k_Client__accepted ?a_Client__waiting ?i_Client__waiting ?l_Client__waiting ?e_Client__waiting ?k_Client__waiting ?ac_Group ?pg_Group ?hd_Group ?po_Group ?sa_Group ?mk_Group ?kc_Group ?na_Group_faults ?na_Group_machines ?na_Group_quorum ?na_Group_blocking ?a_Group____init__ ?i_Group____init__ ?l_Group____init__ ?e_Group____init__ ?k_Group____init__ ?a_Group__members ?i_Group__members ?l_Group__members ?e_Group__members ?k_Group__members ?a_Group__is_member ?i_Group__is_member ?l_Group__is_member ?e_Group__is_member ?k_Group__is_member ?xa_BadGroup ?xe_BadGroup ?xk_BadGroup ?xb_BadGroup ?xt_BadGroup ?xh_BadGroup ?a_FORMS ?l_FORMS ?kl_FORMS ?lo_FORMS ?vf_FORMS_answer ?vf_FORMS_command ?u_BadGroup_BadGroup ?a_MOST_ANSWER ?a_MOST_FAULTS ?a_MOST_NUMBER ?a_MOST_TEXT ?z_bool ?z_int ?z_isinstance ?z_len ?z_list ?z_max ?z_range ?z_str ?z_tuple)
    (case a_is_integer => k_is)
    (case l_is_integer => k_is)
    (case e_is_integer => k_is)
    (case k_is_integer => k_is)
    (case a_is_printable => k_is)
    (case l_is_printable => k_is)
    (case e_is_printable => k_is)
    (case k_is_printable => k_is)
    (case a_is_short => k_is)
    (case l_is_short => k_is)
    (case e_is_short => k_is)
    (case k_is_short => k_is)
    (case a_is_number => k_is)
    (case l_is_number => k_is)
    (case e_is_number => k_is)
    (case k_is_number => k_is)
    (case a_holds_request => k_is)
    (case l_holds_request => k_is)
    (case e_holds_request => k_is)
    (case k_holds_request => k_is)
    (case a_holds_answer => k_is)
    (case l_holds_answer => k_is)
    (case e_holds_answer => k_is)
    (case k_holds_answer => k_is)
    (case a_is_letter => k_is)
    (case l_is_letter => k_is)
    (case e_is_letter => k_is)
    (case k_is_letter => k_is)
    (case a__law_rich => k_is)
    (case l__law_rich => k_is)
    (case e__law_rich => k_is)
    (case k__law_rich => k_is)
    (case a__law_letters => k_is)
    (case l__law_letters => k_is)
    (case e__law_letters => k_is)
    (case k__law_letters => k_is)
    (case a__law_receive => k_is)
    (case l__law_receive => k_is)
    (case e__law_receive => k_is)
    (case k__law_receive => k_is)
    (case a__law_call => k_is)
    (case l__law_call => k_is)
    (case e__law_call => k_is)
    (case k__law_call => k_is)
    (case a__law_same => k_is)
    (case l__law_same => k_is)
    (case e__law_same => k_is)
    (case k__law_same => k_is)
    (case a_law => k_is)
    (case l_law => k_is)
    (case e_law => k_is)
    (case k_law => k_is)
    (case ac_Client => k_is)
    (case pg_Client => k_is)
    (case hd_Client => k_is)
    (case po_Client => k_is)
    (case sa_Client => k_is)
    (case mk_Client => k_is)
    (case kc_Client => k_is)
    (case na_Client__group => k_is)
    (case na_Client__name => k_is)
    (case na_Client__texts => k_is)
    (case na_Client__accepted => k_is)
    (case na_Client__answers => k_is)
    (case a_Client____init__ => k_is)
    (case i_Client____init__ => k_is)
    (case l_Client____init__ => k_is)
    (case e_Client____init__ => k_is)
    (case k_Client____init__ => k_is)
    (case a_Client__submit => k_is)
    (case i_Client__submit => k_is)
    (case l_Client__submit => k_is)
    (case e_Client__submit => k_is)
    (case k_Client__submit => k_is)
    (case a_Client__tick => k_is)
    (case i_Client__tick => k_is)
    (case l_Client__tick => k_is)
    (case e_Client__tick => k_is)
    (case k_Client__tick => k_is)
    (case a_Client__receive => k_is)
    (case i_Client__receive => k_is)
    (case l_Client__receive => k_is)
    (case e_Client__receive => k_is)
    (case k_Client__receive => k_is)
    (case a_Client__pending => k_is)
    (case i_Client__pending => k_is)
    (case l_Client__pending => k_is)
    (case e_Client__pending => k_is)
    (case k_Client__pending => k_is)
    (case a_Client__accepted => k_is)
    (case i_Client__accepted => k_is)
    (case l_Client__accepted => k_is)
    (case e_Client__accepted => k_is)
    (case k_Client__accepted => k_is)
    (case a_Client__waiting => k_is)
    (case i_Client__waiting => k_is)
    (case l_Client__waiting => k_is)
    (case e_Client__waiting => k_is)
    (case k_Client__waiting => k_is)
    (case ac_Group => k_is)
    (case pg_Group => k_is)
    (case hd_Group => k_is)
    (case po_Group => k_is)
    (case sa_Group => k_is)
    (case mk_Group => k_is)
    (case kc_Group => k_is)
    (case na_Group_faults => k_is)
    (case na_Group_machines => k_is)
    (case na_Group_quorum => k_is)
    (case na_Group_blocking => k_is)
    (case a_Group____init__ => k_is)
    (case i_Group____init__ => k_is)
    (case l_Group____init__ => k_is)
    (case e_Group____init__ => k_is)
    (case k_Group____init__ => k_is)
    (case a_Group__members => k_is)
    (case i_Group__members => k_is)
    (case l_Group__members => k_is)
    (case e_Group__members => k_is)
    (case k_Group__members => k_is)
    (case a_Group__is_member => k_is)
    (case i_Group__is_member => k_is)
    (case l_Group__is_member => k_is)
    (case e_Group__is_member => k_is)
    (case k_Group__is_member => k_is)
    (case xa_BadGroup => k_is)
    (case xe_BadGroup => first | k_is | k_exc)
    (case xk_BadGroup => k_is)
    (case xb_BadGroup => k_is)
    (case xt_BadGroup => k_is)
    (case xh_BadGroup => k_is)
    (case a_FORMS => k_is)
    (case l_FORMS => k_is)
    (case kl_FORMS => k_keys)
    (case lo_FORMS => decide)
    (case vf_FORMS_answer => k_is)
    (case vf_FORMS_command => k_is)
    (case u_BadGroup_BadGroup => k_is)
    (case a_MOST_ANSWER => k_is)
    (case a_MOST_FAULTS => k_is)
    (case a_MOST_NUMBER => k_is)
    (case a_MOST_TEXT => k_is)
    (case z_bool => k_is)
    (case z_int => k_is)
    (case z_isinstance => k_is)
    (case z_len => k_is)
    (case z_list => k_is)
    (case z_max => k_is)
    (case z_range => k_is)
    (case z_str => k_is)
    (case z_tuple => k_is)

