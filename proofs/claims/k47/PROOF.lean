--@ins
import PyProof.Rows.All
import Wide.All
import OpenK.AllK
import Wide.FinOn
import HandS.ForMost
import HandS.Walk
import HandS.Flow
import HandS.Codes
import HandS.IsInst
import HandS.Conv
import HandS.StrMore
import PyProof.MeetsSeq2
import PyProof.DictTable
import HandS.Wide
import HandS.TupAny
import HandS.More
import HandS.Dict
import HandS.ForExc
import HandS.ExcIs
import HandS.ExcField
import HandS.DeepEq
import HandS.TupLe
import HandS.Steps
import HandS.ExcInit
import HandS.SortRule
import HandS.SortKw
import HandS.Keys
import KE.SortKeyHeap
import KE.DataMinMax
import KE.SortData
import HandS.RaiseMore
import HandS.Zip
import HandS.DictSubView
import HandS.Deep
import HandS.Sort
import HandS.SetKeys
import HandS.Strs
import HandS.SetFor
import HandS.DictComp
import HandS.Style
import PySem.Challenge.RW_oathledger_k47_store_step_by_step
set_option Elab.async false
set_option linter.all false
set_option maxRecDepth 100000
set_option maxHeartbeats 4000000
namespace Law
open PySem PySem.Spec PyProof.Rows L2
open C8 (Cal Met Mak pe_c pe_mk pe_mt pe_mt0 pe_gc pss_cut tCut)
/-! ### a def of the top, by its name -/
structure DefOk (K : PySem.W.Frag) (mg : Str → Option Value) (x : Str) (st : Stmt) (ps : List Str) : Prop where
  ex : ∃ (f : Addr) (fd : FuncData), L2.Fun K x x st f fd ∧ mg x = some (.ref f) ∧ Binds K fd ps []
section
variable {P : Program} {w : World} {K : PySem.W.Frag} {mg : Str → Option Value} {base : Heap}
/-- a def's promise, by its body -/
theorem cal {x : Str} {st : Stmt} {N ps : List Str} {k : Nat} {sp : Sp} (D : DefOk K mg x st ps) (S : FnScope N ps (defScope st)) (len : ∀ vs H Q E, sp vs H Q E → vs.length = ps.length)
    (hbody : ∀ (f : Addr) (cdv : Value) (A : Around) (outer : List Env) (s : Shared) (H : Hp) (vs : List V) (Q : VK) (E : XK), Room k (A.deeper (envOfC x (defScope st) s.heap.objs.size f cdv)) → sp vs H Q E →
      ∃ t, PSs (cxOf L2.CX0 P w K mg base N x (defScope st) f cdv A outer s H E).nox (defBody st) t ∧ t { nx := fun _ H' => Q .non H', rt := Q } (start N vs) H) : Cal P w K mg base (k + 1) x sp [] := by
  obtain ⟨f, fd, F, hm, b⟩ := D.ex
  exact ⟨f, fd, ps, [], F.ok S len (fun cdv A outer s H vs Q E hr h => hbody f cdv A outer s H vs Q E hr h), hm, F.kp, b, .nil⟩
/-- a call without arguments -/
theorem pe_c0 {X : Cx} {k j : Nat} {x : Str} {sp : Sp} {dvs : List V} {p pos : Pos} (c : Cal X.prog X.w X.K X.mg X.base k x sp dvs) (hr : Room j X.A) (hk : k ≤ j) (hg : Gl X x)
    (hdb : (x == ("__debug__" : Str)) = false := by decide) : PE X (.Call (.Name x p) [] [] pos) (tCall sp dvs L2.E0 tNil) := by
  obtain ⟨f, fd, ps, ds, F, hm, kp, b, d⟩ := c.ex
  exact pe_call0 F (hr.mono hk) hg hm kp b d pass0 hdb
end
/-! ### small things -/
theorem same_upd {H : Hp} {p : Addr} {o : HO} (h : H p = none) : Same H (upd H p o) := fun b x e => by
  rw [upd_ne (ne_of_none e h)]
  exact e
theorem same_mut {H H' : Hp} {p : Addr} {o : HO} (s : Same H H') (h : H p = none) : Same H (upd H' p o) := fun b x e => by
  rw [upd_ne (ne_of_none e h)]
  exact s b x e
theorem sz1000 {n : Nat} (h : n ≤ 100000) : n ≤ sizeLine := Nat.le_trans h (by decide)
theorem sz1000' {n : Nat} (h : n < 100000) : n < sizeLine := Nat.lt_of_lt_of_le h (by decide)
theorem sz1000'' {n : Nat} (h : n ≤ 16777216) : n ≤ sizeLine := by rw [sizeLine_eq]; exact h
theorem sq {K : PySem.W.Frag} {H : Hp} {a : Addr} {xs : List V} (h : H a = some (.lst xs)) : SqL K H a xs := .inl (.inl h)
def spLaw (K : PySem.W.Frag) : Sp := fun vs H Q _ => ∃ (a : Addr) (ns : List Int), vs = [.ref a] ∧ SqL K H a (ns.map V.int) ∧ ns.length ≤ 63 ∧ ∀ H', Q (.bl true) H'
/-! ### the reading, step by step -/
local macro_rules | `(tactic| walk_at "sd") => `(tactic| first
  | omega
  | decide
  | assumption
  | (show _ ∨ _; exact Or.inl ⟨by omega, by omega⟩)
  | (show _ ∨ _; exact Or.inr ⟨by omega, by omega⟩)
  | (show _ ∧ _; exact ⟨by omega, by omega⟩)
  | (show _ ∧ _; exact ⟨by decide, by decide⟩)
  | exact sz1000 (by omega)
  | exact sz1000' (by omega))
local macro_rules | `(tactic| walk_at "sz") => `(tactic| first
  | exact sz1000 (Nat.le_of_ble_eq_true rfl)
  | exact sz1000 (by omega)
  | exact sz1000'' (by omega)
  | assumption)
/-- one step of a reading: a slot, an operator upon numbers, a call upon values -/
local macro_rules | `(tactic| walk_at "rd") => `(tactic| first
  | refine ⟨_, (rfl : (_ : List (Option V))[_]? = some (some _)), ?_⟩
  | refine ⟨_, _, (rfl : (_ : V) = _), (rfl : (_ : V) = _), (by walk_at "sd" : (_ : Prop)), ?_⟩
  | refine ⟨_, _, (rfl : (_ : V) = _), (rfl : (_ : V) = _), ?_⟩
  | refine ⟨_, (rfl : (_ : List V) = _), (by walk_at "sd" : (_ : Prop)), (by walk_at "sd" : (_ : Prop)), ?_⟩
  | refine ⟨_, (rfl : (_ : List V) = _), ?_⟩
  | refine ⟨_, (rfl : (_ : V) = _), ?_⟩
  | refine .inl ⟨_, (rfl : (_ : List V) = _), ?_⟩
  | refine ⟨⟨_, (rfl : (_ : V) = _)⟩, ?_⟩
  | refine ⟨(rfl : scal _ _ = true), ?_⟩
  | refine ⟨(rfl : V.non = V.non), ?_⟩
  | refine ⟨(by walk_at "sz" : (_ ≤ sizeLine)), ?_⟩)
local macro_rules | `(tactic| walk_at "rds") => `(tactic| repeat walk_at "rd")
theorem tyes {σ : L2.St} {H : Hp} {A B : Hp → Prop} (h : A H) : tYes σ H (fun b H3 => if b = true then A H3 else B H3) := by
  show (if true = true then A H else B H)
  rw [if_pos rfl]
  exact h
theorem sum_ones {ys : List Str} (h : ∀ y ∈ ys, y.length = 1) : (ys.map (fun x => x.length)).sum = ys.length := by
  induction ys with
  | nil => rfl
  | cons y r ih =>
    rw [List.map_cons, List.sum_cons, ih (fun z hz => h z (List.mem_cons_of_mem _ hz)), h y List.mem_cons_self, List.length_cons]
    omega
theorem chr_at {z : Str} {i : Int} (h0 : 0 ≤ i) (h1 : i < z.length) : ∃ c, atI z.cps.toList i = some c := by
  obtain ⟨j, rfl⟩ := Int.eq_ofNat_of_zero_le h0
  have hj : j < z.cps.toList.length := by
    rw [Array.length_toList]
    exact Int.ofNat_lt.mp h1
  exact ⟨z.cps.toList[j], atI_nat (List.getElem?_eq_getElem hj)⟩
/-- what an append to a tracked new list leaves -/
theorem lst_app {α : Type} {H : Hp} {D : Addr} {f : α → V} {ys : List α} {y : α} : upd H D (.lst (ys.map f ++ [f y])) D = some (.lst ((ys ++ [y]).map f)) := by
  rw [upd_same, List.map_append]
  rfl
theorem rg40 {n : Nat} (h : n ≤ 100000) : RgC 0 n 40 ((n + 39) / 40) := by
  have e : Builtin.Range.rangeSize 0 (n : Int) 40 = (((n + 39) / 40 : Nat) : Int) := by
    rw [rangeSize_pos (by decide) (by omega)]
    omega
  refine ⟨by decide, by decide, ?_, e⟩
  unfold Builtin.Range.small
  rw [e]
  unfold Builtin.Range.rangeFitsLong
  simp
  omega
theorem isi {K : PySem.W.Frag} {H : Hp} {x : V} {T1 T2 : String} {b : Bool} {Q : VK} (ty : TyX K H x (.type T1)) (e : kitB T1 T2 = some b) (q : Q (.bl b) H) : rIsi K [x, .ty T2] H Q :=
  ⟨x, .ty T2, _, _, b, rfl, .ty _, ty, kit_ty e, q⟩
theorem ifT {c : Bool} {A B : Prop} (hc : c = true) (h : A) : if c = true then A else B := by
  rw [if_pos hc]
  exact h
theorem ifF {c : Bool} {A B : Prop} (hc : c = false) (h : B) : if c = true then A else B := by
  rw [if_neg (by rw [hc]; decide)]
  exact h
local macro_rules | `(tactic| walk_at "isk") => `(tactic| first
  | exact .base (.int _) | exact .base (.str _) | exact .base (.bl _) | exact .base .non
  | exact .base (.lst (by assumption)) | exact .base (.tup (by assumption)) | exact .base (.dK (by assumption)))
/-- isinstance(x, T) with a built-in T; the object's fact stands in the context -/
local macro_rules | `(tactic| walk_at "isi") => `(tactic| first
  | refine ⟨_, .ty _, _, _, true, (rfl : (_ : List V) = _), .ty _, (by walk_at "isk"), kit_ty (by decide +kernel), ?_⟩
  | refine ⟨_, .ty _, _, _, false, (rfl : (_ : List V) = _), .ty _, (by walk_at "isk"), kit_ty (by decide +kernel), ?_⟩)
/-! ### classes of the top -/
structure MethOk (K : PySem.W.Frag) (C : Addr) (m qual : Str) (st : Stmt) (ps : List Str) : Prop where
  ex : ∃ (f : Addr) (fd : FuncData), Meth K C m f ∧ L2.Fun K m qual st f fd ∧ Binds K fd ps []
structure MakOk (K : PySem.W.Frag) (C : Addr) (qual : Str) (st : Stmt) (ps : List Str) : Prop where
  ex : ∃ (f : Addr) (fd : FuncData), Mk K C f ∧ L2.Fun K "__init__" qual st f fd ∧ Binds K fd ps []
section
variable {P : Program} {w : World} {K : PySem.W.Frag} {mg : Str → Option Value} {base : Heap}
theorem met {C : Addr} {m qual : Str} {st : Stmt} {N ps : List Str} {k : Nat} {sp : Sp} (c : Cls K C) (D : MethOk K C m qual st ps) (S : FnScope N ps (defScope st)) (len : ∀ vs H Q E, sp vs H Q E → vs.length = ps.length)
    (hbody : ∀ (f : Addr) (cdv : Value) (A : Around) (outer : List Env) (s : Shared) (H : Hp) (vs : List V) (Q : VK) (E : XK), Room k (A.deeper (envOfC qual (defScope st) s.heap.objs.size f cdv)) → sp vs H Q E →
      ∃ t, PSs (cxOf L2.CX0 P w K mg base N qual (defScope st) f cdv A outer s H E).nox (defBody st) t ∧ t { nx := fun _ H' => Q .non H', rt := Q } (start N vs) H) : Met P w K mg base (k + 1) C m sp [] := by
  obtain ⟨f, fd, M, F, b⟩ := D.ex
  exact ⟨f, fd, ps, [], c, M, F.ok S len (fun cdv A outer s H vs Q E hr h => hbody f cdv A outer s H vs Q E hr h), b, .nil⟩
theorem mak {C : Addr} {x qual : Str} {st : Stmt} {N ps : List Str} {k : Nat} {sp : Sp} (hm : mg x = some (.ref C)) (D : MakOk K C qual st ps) (S : FnScope N ps (defScope st)) (len : ∀ vs H Q E, sp vs H Q E → vs.length = ps.length)
    (hbody : ∀ (f : Addr) (cdv : Value) (A : Around) (outer : List Env) (s : Shared) (H : Hp) (vs : List V) (Q : VK) (E : XK), Room k (A.deeper (envOfC qual (defScope st) s.heap.objs.size f cdv)) → sp vs H Q E →
      ∃ t, PSs (cxOf L2.CX0 P w K mg base N qual (defScope st) f cdv A outer s H E).nox (defBody st) t ∧ t { nx := fun _ H' => Q .non H', rt := Q } (start N vs) H) : Mak P w K mg base (k + 1) x C sp [] := by
  obtain ⟨f, fd, M, F, b⟩ := D.ex
  exact ⟨f, fd, ps, [], M, F.ok S len (fun cdv A outer s H vs Q E hr h => hbody f cdv A outer s H vs Q E hr h), hm, b, .nil⟩
end
/-- a tuple of the top, in the written part -/
def KTup (K : PySem.W.Frag) (a : Addr) (xs : List V) : Prop := ∃ o its n, K.lookup a = some o ∧ o.cls = Value.type "tuple" ∧ o.data = Data.seq its n ∧ its.size ≤ sizeLine ∧ Vals xs its.toList
theorem pe_mk0 {X : Cx} {k j : Nat} {x : Str} {C : Addr} {sp : Sp} {dvs : List V} {p pos : Pos} (c : Mak X.prog X.w X.K X.mg X.base k x C sp dvs) (hr : Room j X.A) (hk : k + 1 ≤ j) (hg : Gl X x)
    (hdb : (x == ("__debug__" : Str)) = false := by decide) : PE X (.Call (.Name x p) [] [] pos) (tMake C sp dvs L2.E0 tNil) := by
  obtain ⟨f, fd, ps, ds, M, F, hm, b, d⟩ := c.ex
  exact pe_make0 M F (hr.mono hk) hg hm b d pass0 hdb
/-! ### rules whose written part is named K (a comprehension's context is another one) -/
section
variable {X : Cx} {K : PySem.W.Frag}
theorem kin (h : X.K = K := by rfl) : OpR X (compareOp .In) (rIn K false) := by subst h; exact op_in_seq
theorem knin (h : X.K = K := by rfl) : OpR X (compareOp .NotIn) (rIn K true) := by subst h; exact op_notIn_seq
theorem kixl (h : X.K = K := by rfl) : IxR X (rIxL K) := by subst h; exact ix_list
theorem kixt (h : X.K = K := by rfl) : IxR X (rIxT K) := by subst h; exact ix_tup
theorem ksll (h : X.K = K := by rfl) : SlR X (rSlL K) := by subst h; exact sl_list
theorem kisi (h : X.K = K := by rfl) : CallR X (.builtin "isinstance") (rIsi K) := by subst h; exact call_isi
theorem kfld {o : Expr} {f : Str} {pos : Pos} {ta : TE} (he : PE X o ta) (hb : attributeBase o f X.env (eval o X.env) = eval o X.env := by rfl) (h : X.K = K := by rfl) : PE X (.Attribute o f pos) (tFld K ta f) := by subst h; exact pe_fld he hb
def rLenK (K : PySem.W.Frag) : List V → Hp → VK → Prop := fun xs H Q => ∃ p ys, xs = [.ref p] ∧ (SqL K H p ys ∨ SqT K H p ys) ∧ Q (.int ys.length) H
theorem klen (h : X.K = K := by rfl) : CallR X (.builtin "len") (rLenK K) := by subst h; exact call_len_seq
end
theorem hu1 {k : Nat} {A : Around} (hr : Room k A) : A.units + 1 < cLine := by have := hr.units; omega
section
variable {X : Cx}
theorem kdin {d : Addr} (h : ∃ es n, KDict X.K X.w d es n) : OpR X (compareOp .In) (fun x y H Q => ∃ (z : Str) (r : Option Value), x = .str z ∧ y = .ref d ∧ PySem.W.nsIn X.K d z = some r ∧ Q (.bl r.isSome) H) := by
  obtain ⟨es, n, D⟩ := h
  exact op_in_kd D
theorem kdnin {d : Addr} (h : ∃ es n, KDict X.K X.w d es n) : OpR X (compareOp .NotIn) (fun x y H Q => ∃ (z : Str) (r : Option Value), x = .str z ∧ y = .ref d ∧ PySem.W.nsIn X.K d z = some r ∧ Q (.bl (!r.isSome)) H) := by
  obtain ⟨es, n, D⟩ := h
  exact op_notIn_kd D
end
theorem kgtup {X : Cx} {K : PySem.W.Frag} {es : List Expr} {k : Nat} {t : TGs} {n : Nat} {pos : Pos} (hc : X.calm = true) (h : PGs X es t)
    (hn : (assignEach es X.env).length = n := by rfl) (hst : (assignEach es X.env).findIdx? (·.1) = none := by rfl) (hK : X.K = K := by rfl) : PG X (.Tuple es k pos) (gTup K n t) := by subst hK; exact pg_tup hc h hn hst
theorem hu65 {A : Around} {k : Nat} (hr : Room k A) : A.units + 65 < cLine := by have := hr.un; omega
theorem keqD {X : Cx} {K : PySem.W.Frag} (hu : X.A.units + 64 < cLine) (h : X.K = K := by rfl) : OpR X (compareOp .Eq) (rEqD K) := by subst h; exact op_eqD hu
theorem kneD {X : Cx} {K : PySem.W.Frag} (hu : X.A.units + 64 < cLine) (h : X.K = K := by rfl) : OpR X (compareOp .NotEq) (rNeD K) := by subst h; exact op_neD hu

/-! ### defs that raise own exceptions -/
theorem kit_own {K : PySem.W.Frag} {B C : Addr} (h1 : PySem.W.subIn K (.ref C) (.type "BaseException") = some true) (h2 : PySem.W.typeIn K (.ref C) = some (.type "type")) (h3 : PySem.W.subIn K (.ref B) (.ref C) = some true) : PySem.W.kitOne K (.ref B) (.ref C) = some true := by
  have h0 : (PySem.W.clsIn K C).isSome = true := by
    have h1 : PySem.W.mroIn K C (.type "BaseException") = some true := h1
    unfold PySem.W.mroIn at h1
    cases e : PySem.W.clsIn K C with
    | some _ => rfl
    | none => rw [e] at h1; cases h1
  unfold PySem.W.kitOne
  split
  · rfl
  · show (if ((PySem.W.clsIn K C).isSome && PySem.W.typeIn K (.ref C) == some (.type "type")) = true then PySem.W.subIn K (.ref B) (.ref C) else none) = some true
    rw [h0, h2, h3]
    rfl
section
variable {X : Cx}
/-- C() of an own exception class without an __init__ of its own -/
theorem pmk_own0 {x : Str} {C : Addr} {bmB : List Value} {B newId initId : String} {p pos : Pos} (F : ExcBaseFacts B newId initId bmB) (q : PySem.W.excIn X.K C bmB newId = true) (gC : X.mg x = some (.ref C)) (kC : PySem.W.keepIn X.K (.ref C) = true) (r : Raises X (.ref C)) (hg : Gl X x)
    (hdb : (x == ("__debug__" : Str)) = false := by decide) : PMk X (.Call (.Name x p) [] [] pos) (fun _ H Q => Q (.ref C) none H) := by
  intro pins s σ H Q I h
  refine wpAny_Call_Name_kw (ld_glob I hg gC ?_ hdb)
  refine PySem.W.callWith_K0 I.kIn kC ?_
  show wpAny _ _ (call (.ref C) []) _ _ _
  obtain ⟨bm, N, nm, qn, bs, hdct, sn, sub, ab, col, dd, k0, k1, k2, k3, k5, mN, hC, hN, hni, T⟩ := exc_obj I.kIn q
  refine wpAny_call_exc_subT F T hC hN hni (fun h' e hm => ?_) (Nat.zero_le _)
  exact mk_of I hm r h (I.hok.gone hm.new)
end
/-- an own exception class over ValueError -/
structure ExOk (K : PySem.W.Frag) (mg : Str → Option Value) (x : Str) (C : Addr) : Prop where
  ex : PySem.W.excIn K C [.type "ValueError", .type "Exception", .type "BaseException", .type "object"] "ValueError.__new__" = true
  g : mg x = some (.ref C)
  kp : PySem.W.keepIn K (.ref C) = true
  bp : PySem.W.subIn K (.ref C) (.type "BaseException") = some true
  tp : PySem.W.typeIn K (.ref C) = some (.type "type")
  hd : PySem.W.hasDictIn K C = true
theorem ExOk.exm {K : PySem.W.Frag} {mg : Str → Option Value} {x : Str} {C : Addr} {cls : Value} {b : Bool} (e : ExOk K mg x C) (h : PySem.W.subIn K cls (.ref C) = some b) : PySem.W.exmOne K cls (.ref C) = some b := PySem.W.exm_ref e.bp e.hd e.tp h
theorem pmk_ok {X : Cx} {x : Str} {C : Addr} {p pos : Pos} (e : ExOk X.K X.mg x C) (hg : Gl X x) (hdb : (x == ("__debug__" : Str)) = false := by decide) : PMk X (.Call (.Name x p) [] [] pos) (fun _ H Q => Q (.ref C) none H) :=
  pmk_own0 PySem.F.excBase_ValueError e.ex e.g e.kp (raises_own e.bp e.tp) hg hdb
/-! the promises of such defs -/
structure CalX (P : Program) (w : World) (K : PySem.W.Frag) (mg : Str → Option Value) (base : Heap) (k : Nat) (x : Str) (sp : Sp) : Prop where
  ex : ∃ (f : Addr) (fd : FuncData) (ps : List Str), FnOk P w K mg base (L2.CX P w) k f fd ps sp ∧ mg x = some (.ref f) ∧ PySem.W.keepIn K (.ref f) = true ∧ Binds K fd ps []
structure MetX (P : Program) (w : World) (K : PySem.W.Frag) (mg : Str → Option Value) (base : Heap) (k : Nat) (C : Addr) (m : Str) (sp : Sp) : Prop where
  ex : ∃ (f : Addr) (fd : FuncData) (ps : List Str), Cls K C ∧ Meth K C m f ∧ FnOk P w K mg base (L2.CX P w) k f fd ps sp ∧ Binds K fd ps []
structure MakX (P : Program) (w : World) (K : PySem.W.Frag) (mg : Str → Option Value) (base : Heap) (k : Nat) (x : Str) (C : Addr) (sp : Sp) : Prop where
  ex : ∃ (f : Addr) (fd : FuncData) (ps : List Str), Mk K C f ∧ FnOk P w K mg base (L2.CX P w) k f fd ps sp ∧ mg x = some (.ref C) ∧ Binds K fd ps []
section
variable {P : Program} {w : World} {K : PySem.W.Frag} {mg : Str → Option Value} {base : Heap}
theorem calX {x : Str} {st : Stmt} {N ps : List Str} {k : Nat} {sp : Sp} (D : DefOk K mg x st ps) (S : FnScope N ps (defScope st)) (len : ∀ vs H Q E, sp vs H Q E → vs.length = ps.length)
    (hbody : ∀ (f : Addr) (cdv : Value) (A : Around) (outer : List Env) (s : Shared) (H : Hp) (vs : List V) (Q : VK) (E : XK), Room k (A.deeper (envOfC x (defScope st) s.heap.objs.size f cdv)) → sp vs H Q E →
      ∃ t, PSs (cxOf (L2.CX P w) P w K mg base N x (defScope st) f cdv A outer s H E) (defBody st) t ∧ t { nx := fun _ H' => Q .non H', rt := Q } (start N vs) H) : CalX P w K mg base (k + 1) x sp := by
  obtain ⟨f, fd, F, hm, b⟩ := D.ex
  exact ⟨f, fd, ps, F.okX S len (fun cdv A outer s H vs Q E hr h => hbody f cdv A outer s H vs Q E hr h), hm, F.kp, b⟩
theorem metX {C : Addr} {m qual : Str} {st : Stmt} {N ps : List Str} {k : Nat} {sp : Sp} (c : Cls K C) (D : MethOk K C m qual st ps) (S : FnScope N ps (defScope st)) (len : ∀ vs H Q E, sp vs H Q E → vs.length = ps.length)
    (hbody : ∀ (f : Addr) (cdv : Value) (A : Around) (outer : List Env) (s : Shared) (H : Hp) (vs : List V) (Q : VK) (E : XK), Room k (A.deeper (envOfC qual (defScope st) s.heap.objs.size f cdv)) → sp vs H Q E →
      ∃ t, PSs (cxOf (L2.CX P w) P w K mg base N qual (defScope st) f cdv A outer s H E) (defBody st) t ∧ t { nx := fun _ H' => Q .non H', rt := Q } (start N vs) H) : MetX P w K mg base (k + 1) C m sp := by
  obtain ⟨f, fd, M, F, b⟩ := D.ex
  exact ⟨f, fd, ps, c, M, F.okX S len (fun cdv A outer s H vs Q E hr h => hbody f cdv A outer s H vs Q E hr h), b⟩
theorem makX {C : Addr} {x qual : Str} {st : Stmt} {N ps : List Str} {k : Nat} {sp : Sp} (hm : mg x = some (.ref C)) (D : MakOk K C qual st ps) (S : FnScope N ps (defScope st)) (len : ∀ vs H Q E, sp vs H Q E → vs.length = ps.length)
    (hbody : ∀ (f : Addr) (cdv : Value) (A : Around) (outer : List Env) (s : Shared) (H : Hp) (vs : List V) (Q : VK) (E : XK), Room k (A.deeper (envOfC qual (defScope st) s.heap.objs.size f cdv)) → sp vs H Q E →
      ∃ t, PSs (cxOf (L2.CX P w) P w K mg base N qual (defScope st) f cdv A outer s H E) (defBody st) t ∧ t { nx := fun _ H' => Q .non H', rt := Q } (start N vs) H) : MakX P w K mg base (k + 1) x C sp := by
  obtain ⟨f, fd, M, F, b⟩ := D.ex
  exact ⟨f, fd, ps, M, F.okX S len (fun cdv A outer s H vs Q E hr h => hbody f cdv A outer s H vs Q E hr h), hm, b⟩
end
/-! their calls: E tells at the slots what is wished of an error -/
section
variable {X : Cx} {k j : Nat} {C : Addr} {x m : Str} {sp : Sp} {p pos apos : Pos} {e o : Expr} {es : List Expr} {ta : TE} {t : TA} {E : L2.St → XK}
theorem pe_cX (c : CalX X.prog X.w X.K X.mg X.base k x sp) (hr : Room j X.A) (hk : k ≤ j) (hg : Gl X x) (hx : ∀ σ, PassesAt (L2.CX X.prog X.w) X σ (E σ)) (ha : PA X (e :: es) t)
    (hdb : (x == ("__debug__" : Str)) = false := by decide) (he : starEach (e :: es) X.env = (false, eval e X.env) :: starEach es X.env := by rfl) (hpl : (backTo pos (starEach es X.env)).any (·.1) = false := by rfl) :
    PE X (.Call (.Name x p) (e :: es) [] pos) (tCallS sp E t) := by
  obtain ⟨f, fd, ps, F, hm, kp, b⟩ := c.ex
  exact pe_callS F (hr.mono hk) hg hm kp b hx ha hdb he hpl
/-- where nothing is raised -/
theorem pe_cXn (c : CalX X.prog X.w X.K X.mg X.base k x sp) (hr : Room j X.A) (hk : k ≤ j) (hg : Gl X x) (ha : PA X (e :: es) t)
    (hdb : (x == ("__debug__" : Str)) = false := by decide) (he : starEach (e :: es) X.env = (false, eval e X.env) :: starEach es X.env := by rfl) (hpl : (backTo pos (starEach es X.env)).any (·.1) = false := by rfl) :
    PE X (.Call (.Name x p) (e :: es) [] pos) (tCall sp [] L2.E0 t) := by
  obtain ⟨f, fd, ps, F, hm, kp, b⟩ := c.ex
  exact pe_call F (hr.mono hk) hg hm kp b .nil passL ha hdb he hpl
def tMethX (C : Addr) (m : Str) (sp : Sp) (E : L2.St → XK) (ta : TE) (t : TA) : TE := fun σ H Q => ta σ H fun x H1 => ∃ a dx fs, x = .ref a ∧ H1 a = some (.ins C dx fs) ∧ fs.lookup m = none ∧ t σ H1 fun vs H2 => sp (.ref a :: vs) H2 Q (E σ)
theorem pe_mtX {pl : Sem Bool} (c : MetX X.prog X.w X.K X.mg X.base k C m sp) (hr : Room j X.A) (hk : k ≤ j) (hx : ∀ σ, PassesAt (L2.CX X.prog X.w) X σ (E σ)) (he : PE X o ta) (ha : PA X (e :: es) t)
    (hst : starEach (e :: es) X.env = (false, eval e X.env) :: starEach es X.env := by rfl) (hpl : (backTo pos (starEach es X.env)).any (·.1) = false := by rfl)
    (ht : eval (.Call (.Attribute o m apos) (e :: es) [] pos) X.env = (do
      let ov ← eval o X.env
      standAt apos.atName
      let (f, first) ← holding [ov] (getMethod ov m pl)
      callWith pos f first (backTo pos (starEach (e :: es) X.env)) (backToKw pos (keywordEach [] X.env))) := by rfl) :
    PE X (.Call (.Attribute o m apos) (e :: es) [] pos) (tMethX C m sp E ta t) := by
  obtain ⟨f, fd, ps, hc, hm, F, b⟩ := c.ex
  refine ⟨fun pins s σ H Q I h => ?_⟩
  refine PySem.W.methodCall_KW (pl := pl) (thn (he.run pins s σ H _ I h) fun u s1 ⟨x, H1, I1, rx, a, dx, fs, ex, ea, l, q⟩ => ?_) ht
  subst ex
  obtain rfl : u = Value.ref a := rx
  refine getmeth_ok I1 ea hc hm l ?_
  refine PySem.W.callWith_K (first := [.ref a]) (h₀ := X.base) I.ok.mod.kin hm.kp (thn (ha.run pos pins s1 σ H1 _ I1 q) fun us s2 ⟨vs, H2, I2, r, q2⟩ => ⟨I2.kIn, ?_⟩) hst hpl
  exact run_fnS (us := .ref a :: us) (vs := .ref a :: vs) F (hr.mono hk) b (hx σ) I2 (.cons rfl r) q2
theorem pe_mtX0 {pl : Sem Bool} (c : MetX X.prog X.w X.K X.mg X.base k C m sp) (hr : Room j X.A) (hk : k ≤ j) (hx : ∀ σ, PassesAt (L2.CX X.prog X.w) X σ (E σ)) (he : PE X o ta)
    (ht : eval (.Call (.Attribute o m apos) [] [] pos) X.env = (do
      let ov ← eval o X.env
      standAt apos.atName
      let (f, first) ← holding [ov] (getMethod ov m pl)
      callWith pos f first (backTo pos (starEach [] X.env)) (backToKw pos (keywordEach [] X.env))) := by rfl) :
    PE X (.Call (.Attribute o m apos) [] [] pos) (tMethX C m sp E ta tNil) := by
  obtain ⟨f, fd, ps, hc, hm, F, b⟩ := c.ex
  refine ⟨fun pins s σ H Q I h => ?_⟩
  refine PySem.W.methodCall_KW (pl := pl) (thn (he.run pins s σ H _ I h) fun u s1 ⟨x, H1, I1, rx, a, dx, fs, ex, ea, l, q⟩ => ?_) ht
  subst ex
  obtain rfl : u = Value.ref a := rx
  refine getmeth_ok I1 ea hc hm l ?_
  exact PySem.W.callWith_K0 (first := [.ref a]) I1.kIn hm.kp (run_fnS (us := [.ref a]) (vs := [.ref a]) F (hr.mono hk) b (hx σ) I1 (.cons rfl .nil) q)
def tMakeX (C : Addr) (sp : Sp) (E : L2.St → XK) (t : TA) : TE := fun σ H Q => t σ H fun vs H1 => ∀ x dx, H1 x = none → H1 dx = none → dx ≠ x → sp (.ref x :: vs) (upd (upd H1 dx (.own x)) x (.ins C dx [])) (fun v H2 => v = .non ∧ Q (.ref x) H2) (E σ)
theorem run_makeX {CX : CXT} {f : Addr} {fd : FuncData} {ps : List Str} {pins : List (Addr × Obj)} {σ : L2.St} {H : Hp} {s : Shared} {Q : VK} {us : List Value} {vs : List V} {Eσ : XK} (M : Mk X.K C f) (F : FnOk X.prog X.w X.K X.mg X.base CX k f fd ps sp) (hr : Room (k + 1) X.A) (hb : Binds X.K fd ps [])
    (hx : PassesAt CX X σ Eσ) (I : Inv X pins σ H s) (r : Vals vs us)
    (h : ∀ x dx, H x = none → H dx = none → dx ≠ x → sp (.ref x :: vs) (upd (upd H dx (.own x)) x (.ins C dx [])) (fun v H2 => v = .non ∧ Q (.ref x) H2) Eσ) :
    wpAny (model X.prog X.w) X.A (call (.ref C) us) (EP X pins σ Q) X.xe s := by
  have hq := h (s.heap.objs.size + 1) s.heap.objs.size (I.hok.fresh (Nat.le_succ _)) (I.hok.fresh (Nat.le_refl _)) (Nat.ne_of_lt (Nat.lt_succ_self _))
  have I2 := Inv.made (C := C) I
  have r2 : Vals (V.ref (s.heap.objs.size + 1) :: vs) (Value.ref (s.heap.objs.size + 1) :: us) := .cons rfl r
  have hl : (Value.ref (s.heap.objs.size + 1) :: us ++ ([] : List Value)).length = ps.length := by
    have e := r2.length
    rw [F.len _ _ _ _ hq] at e
    rw [List.append_nil]
    exact e.symm
  have hb' := hb _ (Value.ref (s.heap.objs.size + 1) :: us) I2.kIn hl
  rw [List.append_nil] at hb'
  refine wpAny_call (make_map (f := f) I.kIn M.makes M.init (beq_iff_eq.mp M.fn) (codeAny_mono (F.run _ X.stack _ _ ⟨Value.ref (s.heap.objs.size + 1) :: us, []⟩ (Value.ref (s.heap.objs.size + 1) :: us) _ _ Eσ (hr.make C us [])
    (I2.env0.make C us []) hb' r2 hq) fun r s' hq' => ?_))
  cases r with
  | error e => exact hx pins _ _ e s' I2 hq'
  | ok fl =>
    cases fl with
    | ret u =>
      obtain ⟨v, H', I3, rv, ev, q3⟩ := I2.after hq'
      subst ev
      exact ⟨rv, ⟨V.ref (s.heap.objs.size + 1), H', I3, rfl, q3⟩⟩
    | next => exact False.elim hq'
    | brk => exact False.elim hq'
    | cont => exact False.elim hq'
theorem pe_mkX (c : MakX X.prog X.w X.K X.mg X.base k x C sp) (hr : Room j X.A) (hk : k + 1 ≤ j) (hg : Gl X x) (hx : ∀ σ, PassesAt (L2.CX X.prog X.w) X σ (E σ)) (ha : PA X (e :: es) t)
    (hdb : (x == ("__debug__" : Str)) = false := by decide) (he : starEach (e :: es) X.env = (false, eval e X.env) :: starEach es X.env := by rfl) (hpl : (backTo pos (starEach es X.env)).any (·.1) = false := by rfl) :
    PE X (.Call (.Name x p) (e :: es) [] pos) (tMakeX C sp E t) := by
  obtain ⟨f, fd, ps, M, F, hm, b⟩ := c.ex
  refine ⟨fun pins s σ H Q I h => ?_⟩
  refine wpAny_Call_Name_kw (ld_glob I hg hm ?_ hdb)
  refine PySem.W.callWith_K (h₀ := X.base) I.ok.mod.kin M.kp (thn (ha.run pos pins s σ H _ I h) fun us s1 ⟨vs, H1, I1, r, q⟩ => ⟨I1.kIn, ?_⟩) he hpl
  exact run_makeX M F (hr.mono hk) b (hx σ) I1 r q
/-- where nothing is let out: for the calls above in a def without errors -/
theorem no_pass : ∀ σ : L2.St, PassesAt (L2.CX X.prog X.w) X σ ((fun _ => L2.E0) σ) := fun σ pins H s e s' I c => passL pins σ H s e s' I c
end

/-! ### own exceptions with an __init__ of their own -/
structure ExI (K : PySem.W.Frag) (mg : Str → Option Value) (x : Str) (C : Addr) : Prop where
  g : mg x = some (.ref C)
  ox : OexC K C
  xf : XfC K C
theorem ExI.exm {K : PySem.W.Frag} {mg : Str → Option Value} {x : Str} {C : Addr} {cls : Value} {b : Bool} (e : ExI K mg x C) (h : PySem.W.subIn K cls (.ref C) = some b) : PySem.W.exmOne K cls (.ref C) = some b := PySem.W.exm_ref e.ox.exC e.xf.hdC e.ox.tyC h
structure ExInit (K : PySem.W.Frag) (C : Addr) (qual : Str) (st : Stmt) (ps : List Str) : Prop where
  ex : ∃ (f : Addr) (fd : FuncData), PySem.W.findIn K (.ref C) "__init__" = some (some (.ref f)) ∧ PySem.W.typeIn K (.ref f) = some (.type "function") ∧ L2.Fun K "__init__" qual st f fd ∧ Binds K fd ps []
structure ExMk (P : Program) (w : World) (K : PySem.W.Frag) (mg : Str → Option Value) (base : Heap) (k : Nat) (x : Str) (C : Addr) (sp : Sp) : Prop where
  ex : ∃ (f : Addr) (fd : FuncData) (ps : List Str), OexC K C ∧ PySem.W.findIn K (.ref C) "__init__" = some (some (.ref f)) ∧ PySem.W.typeIn K (.ref f) = some (.type "function") ∧ FnOk P w K mg base L2.CX0 k f fd ps sp ∧ Binds K fd ps [] ∧ mg x = some (.ref C)
section
variable {P : Program} {w : World} {K : PySem.W.Frag} {mg : Str → Option Value} {base : Heap}
theorem exmk {C : Addr} {x qual : Str} {st : Stmt} {N ps : List Str} {k : Nat} {sp : Sp} (e : ExI K mg x C) (D : ExInit K C qual st ps) (S : FnScope N ps (defScope st)) (len : ∀ vs H Q E, sp vs H Q E → vs.length = ps.length)
    (hbody : ∀ (f : Addr) (cdv : Value) (A : Around) (outer : List Env) (s : Shared) (H : Hp) (vs : List V) (Q : VK) (E : XK), Room k (A.deeper (envOfC qual (defScope st) s.heap.objs.size f cdv)) → sp vs H Q E →
      ∃ t, PSs (cxOf L2.CX0 P w K mg base N qual (defScope st) f cdv A outer s H E).nox (defBody st) t ∧ t { nx := fun _ H' => Q .non H', rt := Q } (start N vs) H) : ExMk P w K mg base (k + 1) x C sp := by
  obtain ⟨f, fd, h1, h2, F, b⟩ := D.ex
  exact ⟨f, fd, ps, e.ox, h1, h2, F.ok S len (fun cdv A outer s H vs Q E hr h => hbody f cdv A outer s H vs Q E hr h), b, e.g⟩
end
theorem pmk_ei {X : Cx} {k j : Nat} {x : Str} {C : Addr} {sp : Sp} {ta : TA} {p pos : Pos} {e : Expr} {es : List Expr} (c : ExMk X.prog X.w X.K X.mg X.base k x C sp) (hr : Room j X.A) (hk : k + 1 ≤ j) (hg : Gl X x) (ha : PA X (e :: es) ta)
    (hdb : (x == ("__debug__" : Str)) = false := by decide) (he : starEach (e :: es) X.env = (false, eval e X.env) :: starEach es X.env := by rfl) (hpl : (backTo pos (starEach es X.env)).any (·.1) = false := by rfl) :
    PMk X (.Call (.Name x p) (e :: es) [] pos) (tMkO C sp [] ta) := by
  obtain ⟨f, fd, ps, T, iC, tI, F1, hb, hm⟩ := c.ex
  exact pmk_oex T iC tI F1 (hr.mono hk) hb .nil pass0 hg hm ha hdb he hpl
/-- what an __init__ of two fields leaves -/
def spInit2 (C : Addr) (f g : Str) : Sp := fun vs H Q _ => ∃ (a : Addr) (r s : V), vs = [.ref a, r, s] ∧ H a = some (exo a C none) ∧
  ∀ d, H d = none → d ≠ a → Q .non (upd (upd (upd H d (exd d [(f, r)])) a (exo a C (some d))) d (exd d [(g, s), (f, r)]))
/-- its use where it is raised -/
theorem mk_two {C : Addr} {f g : Str} {H1 : Hp} {Q : XK} {r s : V} (q : ∀ H' d, Same H1 H' → H1 d = none → H' d = some (.xd [(g, s), (f, r)]) → Q (.ref C) (some d) H') :
    ([r, s] : List V).length ≤ 1000 ∧ ∀ a, H1 a = none → spInit2 C f g (.ref a :: ([r, s] ++ [])) (upd H1 a (exo a C none)) (fun v H2 => v = .non ∧ ∃ (d : Addr) (fs : List (Str × V)), H2 a = some (exo a C (some d)) ∧ H2 d = some (exd d fs) ∧ H1 d = none ∧ Q (.ref C) (some d) (upd (del H2 a) d (.xd fs))) (fun _ _ _ => False) := by
  refine ⟨by show 2 ≤ 1000; decide, fun a ha => ⟨a, r, s, rfl, upd_same, fun d hd hne => ⟨rfl, d, [(g, s), (f, r)], ?_, upd_same, ?_, q _ d ?_ ?_ upd_same⟩⟩⟩
  · rw [upd_ne hne.symm, upd_same]
  · rw [upd_ne hne] at hd; exact hd
  · intro b o e
    have hb : b ≠ d := fun z => by rw [z] at e; rw [upd_ne hne] at hd; rw [hd] at e; cases e
    have hba : b ≠ a := fun z => by rw [z, ha] at e; cases e
    rw [upd_ne hb, del_ne hba, upd_ne hb, upd_ne hba, upd_ne hb, upd_ne hba]
    exact e
  · rw [upd_ne hne] at hd; exact hd

def topS (i : Nat) : Stmt := PySem.Challenge.pw_oathledger_k47_store_step_by_step.main.body.getD i (.Pass ⟨0, 0, 0, 0⟩)
abbrev s_Refused____init__ : Stmt := inClass (topS 2) 0
theorem sc_Refused____init__ : FnScope ["self", "reason"] ["self", "reason"] (defScope s_Refused____init__) := ⟨rfl, rfl, rfl, by decide +kernel, rfl, by decide +kernel, by decide +kernel⟩
abbrev s_Store____init__ : Stmt := inClass (topS 5) 0
theorem sc_Store____init__ : FnScope ["self"] ["self"] (defScope s_Store____init__) := ⟨rfl, rfl, rfl, by decide +kernel, rfl, by decide +kernel, by decide +kernel⟩
abbrev s_Store__put : Stmt := inClass (topS 5) 1
theorem sc_Store__put : FnScope ["self", "client", "key", "value"] ["self", "client", "key", "value"] (defScope s_Store__put) := ⟨rfl, rfl, rfl, by decide +kernel, rfl, by decide +kernel, by decide +kernel⟩
abbrev s_Store__read : Stmt := inClass (topS 5) 2
theorem sc_Store__read : FnScope ["self", "key"] ["self", "key"] (defScope s_Store__read) := ⟨rfl, rfl, rfl, by decide +kernel, rfl, by decide +kernel, by decide +kernel⟩
abbrev s_Store__drop : Stmt := inClass (topS 5) 3
theorem sc_Store__drop : FnScope ["self", "client", "key"] ["self", "client", "key"] (defScope s_Store__drop) := ⟨rfl, rfl, rfl, by decide +kernel, rfl, by decide +kernel, by decide +kernel⟩
abbrev s_Store__swap : Stmt := inClass (topS 5) 4
theorem sc_Store__swap : FnScope ["self", "key", "old", "new"] ["self", "key", "old", "new"] (defScope s_Store__swap) := ⟨rfl, rfl, rfl, by decide +kernel, rfl, by decide +kernel, by decide +kernel⟩
abbrev s_Store__matching : Stmt := inClass (topS 5) 5
theorem sc_Store__matching : FnScope ["self", "prefix", "key"] ["self", "prefix"] (defScope s_Store__matching) := ⟨rfl, rfl, rfl, by decide +kernel, rfl, by decide +kernel, by decide +kernel⟩
abbrev s_Store__rows : Stmt := inClass (topS 5) 6
theorem sc_Store__rows : FnScope ["self", "key"] ["self"] (defScope s_Store__rows) := ⟨rfl, rfl, rfl, by decide +kernel, rfl, by decide +kernel, by decide +kernel⟩
abbrev s_Store__clone : Stmt := inClass (topS 5) 7
theorem sc_Store__clone : FnScope ["self", "store"] ["self"] (defScope s_Store__clone) := ⟨rfl, rfl, rfl, by decide +kernel, rfl, by decide +kernel, by decide +kernel⟩
abbrev s_Store___check : Stmt := inClass (topS 5) 8
theorem sc_Store___check : FnScope ["self", "key"] ["self", "key"] (defScope s_Store___check) := ⟨rfl, rfl, rfl, by decide +kernel, rfl, by decide +kernel, by decide +kernel⟩
abbrev s_Store___check_owner : Stmt := inClass (topS 5) 9
theorem sc_Store___check_owner : FnScope ["self", "client", "key"] ["self", "client", "key"] (defScope s_Store___check_owner) := ⟨rfl, rfl, rfl, by decide +kernel, rfl, by decide +kernel, by decide +kernel⟩
abbrev s__law_word : Stmt := topS 7
theorem sc__law_word : FnScope ["size", "chars", "seed", "step", "word", "rest", "k"] ["size", "chars", "seed", "step"] (defScope s__law_word) := ⟨rfl, rfl, rfl, by decide +kernel, rfl, by decide +kernel, by decide +kernel⟩
abbrev s__law_key : Stmt := topS 8
theorem sc__law_key : FnScope ["cell", "size"] ["cell"] (defScope s__law_key) := ⟨rfl, rfl, rfl, by decide +kernel, rfl, by decide +kernel, by decide +kernel⟩
abbrev s__law_value : Stmt := topS 9
theorem sc__law_value : FnScope ["cell", "size", "chars"] ["cell"] (defScope s__law_value) := ⟨rfl, rfl, rfl, by decide +kernel, rfl, by decide +kernel, by decide +kernel⟩
abbrev s__law_rich : Stmt := topS 10
theorem sc__law_rich : FnScope ["cell", "k", "mixed"] ["cell", "k"] (defScope s__law_rich) := ⟨rfl, rfl, rfl, by decide +kernel, rfl, by decide +kernel, by decide +kernel⟩
abbrev s__law_op : Stmt := topS 11
theorem sc__law_op : FnScope ["cell", "k", "rich", "verb", "first"] ["cell", "k"] (defScope s__law_op) := ⟨rfl, rfl, rfl, by decide +kernel, rfl, by decide +kernel, by decide +kernel⟩
abbrev s__law_call : Stmt := topS 12
theorem sc__law_call : FnScope ["store", "op", "verb", "client", "key", "value", "other", "e"] ["store", "op"] (defScope s__law_call) := ⟨rfl, rfl, rfl, by decide +kernel, rfl, by decide +kernel, by decide +kernel⟩
abbrev s__law_due : Stmt := topS 13
theorem sc__law_due : FnScope ["model", "op", "verb", "client", "key", "value", "other"] ["model", "op"] (defScope s__law_due) := ⟨rfl, rfl, rfl, by decide +kernel, rfl, by decide +kernel, by decide +kernel⟩
abbrev s__law_rows : Stmt := topS 14
theorem sc__law_rows : FnScope ["model", "key"] ["model"] (defScope s__law_rows) := ⟨rfl, rfl, rfl, by decide +kernel, rfl, by decide +kernel, by decide +kernel⟩
abbrev s__law_same : Stmt := topS 15
theorem sc__law_same : FnScope ["store", "model", "prefix", "keys", "found", "key"] ["store", "model", "prefix"] (defScope s__law_same) := ⟨rfl, rfl, rfl, by decide +kernel, rfl, by decide +kernel, by decide +kernel⟩
abbrev s_law : Stmt := topS 16
theorem sc_law : FnScope ["script", "store", "model", "k", "key", "copied", "kept", "op", "due"] ["script"] (defScope s_law) := ⟨rfl, rfl, rfl, by decide +kernel, rfl, by decide +kernel, by decide +kernel⟩
structure Txt (K : PySem.W.Frag) (mg : Str → Option Value) (C_Store : Addr) (C_Refused : Addr) : Prop where
  d__law_word : DefOk K mg "_law_word" s__law_word ["size", "chars", "seed", "step"]
  d__law_key : DefOk K mg "_law_key" s__law_key ["cell"]
  d__law_value : DefOk K mg "_law_value" s__law_value ["cell"]
  d__law_rich : DefOk K mg "_law_rich" s__law_rich ["cell", "k"]
  d__law_op : DefOk K mg "_law_op" s__law_op ["cell", "k"]
  d__law_call : DefOk K mg "_law_call" s__law_call ["store", "op"]
  d__law_due : DefOk K mg "_law_due" s__law_due ["model", "op"]
  d__law_rows : DefOk K mg "_law_rows" s__law_rows ["model"]
  d__law_same : DefOk K mg "_law_same" s__law_same ["store", "model", "prefix"]
  d_law : DefOk K mg "law" s_law ["script"]
  cl_Store : Cls K C_Store
  g_Store : mg "Store" = some (.ref C_Store)
  na_Store__owners : NoAttr K C_Store "_owners"
  na_Store__values : NoAttr K C_Store "_values"
  mk_Store : MakOk K C_Store "Store.__init__" s_Store____init__ ["self"]
  me_Store__put : MethOk K C_Store "put" "Store.put" s_Store__put ["self", "client", "key", "value"]
  me_Store__read : MethOk K C_Store "read" "Store.read" s_Store__read ["self", "key"]
  me_Store__drop : MethOk K C_Store "drop" "Store.drop" s_Store__drop ["self", "client", "key"]
  me_Store__swap : MethOk K C_Store "swap" "Store.swap" s_Store__swap ["self", "key", "old", "new"]
  me_Store__matching : MethOk K C_Store "matching" "Store.matching" s_Store__matching ["self", "prefix"]
  me_Store__rows : MethOk K C_Store "rows" "Store.rows" s_Store__rows ["self"]
  me_Store__clone : MethOk K C_Store "clone" "Store.clone" s_Store__clone ["self"]
  me_Store___check : MethOk K C_Store "_check" "Store._check" s_Store___check ["self", "key"]
  me_Store___check_owner : MethOk K C_Store "_check_owner" "Store._check_owner" s_Store___check_owner ["self", "client", "key"]
  x_Refused : ExI K mg "Refused" C_Refused
  xn_Refused_reason : PySem.W.findIn K (.ref C_Refused) "reason" = some none
  ei_Refused : ExInit K C_Refused "Refused.__init__" s_Refused____init__ ["self", "reason"]
  u_Refused_Refused : PySem.W.subIn K (.ref C_Refused) (.ref C_Refused) = some true
  c_ENTRY_LIMIT : ∃ u, mg "ENTRY_LIMIT" = some u ∧ RelV (.int 200) u
  z_dict : mg "dict" = none
  z_int : mg "int" = none
  z_isinstance : mg "isinstance" = none
  z_len : mg "len" = none
  z_list : mg "list" = none
  z_range : mg "range" = none
  z_sorted : mg "sorted" = none
  z_str : mg "str" = none
set_option pp.maxSteps 150
theorem units65 {k : Nat} {A : Around} (r : Room k A) : A.units + 65 < cLine := by have := r.un; omega
theorem decV' (i j : Int) : decide (V.int i = V.int j) = decide (i = j) := decide_eq_decide.mpr ⟨fun z => V.int.inj z, fun z => by rw [z]⟩
/-! ### the draws of a script -/
def Dr (H : Hp) (D A : Addr) : Prop := D ≠ A ∧ ∃ (ds : List Int) (n : Nat), H D = some (.lst (ds.map V.int)) ∧ H A = some (.lst [.int n]) ∧ (∀ d ∈ ds, 0 ≤ d ∧ d < 1000) ∧ ds.length ≤ 2520
/-- all that was tracked but A is as it was -/
def Mod (A : Addr) (H H' : Hp) : Prop := ∀ b o, b ≠ A → H b = some o → H' b = some o
theorem Mod.refl {A : Addr} {H : Hp} : Mod A H H := fun _ _ _ h => h
theorem Mod.trans {A : Addr} {H H1 H2 : Hp} (a : Mod A H H1) (b : Mod A H1 H2) : Mod A H H2 := fun c o n h => b c o n (a c o n h)
theorem Same.mod {A : Addr} {H H' : Hp} (s : Same H H') : Mod A H H' := fun b o _ h => s b o h
theorem Mod.new {A p : Addr} {o : HO} {H H' : Hp} (s : Mod A H H') (h : H' p = none) : Mod A H (upd H' p o) := fun b u n e => by
  rw [upd_ne (ne_of_none (s b u n e) h)]
  exact s b u n e
theorem Dr.new {D A p : Addr} {o : HO} {H : Hp} (d : Dr H D A) (h : H p = none) : Dr (upd H p o) D A := by
  obtain ⟨ne, ds, n, h1, h2, h3⟩ := d
  exact ⟨ne, ds, n, by rw [upd_ne (ne_of_none h1 h)]; exact h1, by rw [upd_ne (ne_of_none h2 h)]; exact h2, h3⟩
theorem Dr.same {D A : Addr} {H H' : Hp} (d : Dr H D A) (s : Same H H') : Dr H' D A := by
  obtain ⟨ne, ds, n, h1, h2, h3⟩ := d
  exact ⟨ne, ds, n, s _ _ h1, s _ _ h2, h3⟩
/-- an object that is neither D nor A is changed -/
theorem Dr.put {D A p : Addr} {o : HO} {H : Hp} (d : Dr H D A) (h1 : p ≠ D) (h2 : p ≠ A) : Dr (upd H p o) D A := by
  obtain ⟨ne, ds, n, e1, e2, h3⟩ := d
  exact ⟨ne, ds, n, by rw [upd_ne h1.symm]; exact e1, by rw [upd_ne h2.symm]; exact e2, h3⟩
theorem Dr.freshA {D A p : Addr} {H : Hp} (d : Dr H D A) (h : H p = none) : p ≠ A := by
  obtain ⟨_, _, _, _, e, _⟩ := d
  exact (ne_of_none e h).symm
theorem Dr.freshD {D A p : Addr} {H : Hp} (d : Dr H D A) (h : H p = none) : p ≠ D := by
  obtain ⟨_, _, _, e, _⟩ := d
  exact (ne_of_none e h).symm
theorem Mod.free {A p : Addr} {H H' : Hp} (s : Mod A H H') (d : ∃ o, H' A = some o) (h : H' p = none) : H p = none := by
  cases e : H p with
  | none => rfl
  | some o =>
    by_cases hp : p = A
    · subst hp
      obtain ⟨o', e'⟩ := d
      rw [e'] at h; cases h
    · rw [s p o hp e] at h; cases h
theorem Dr.A_in {D A : Addr} {H : Hp} (d : Dr H D A) : ∃ o, H A = some o := by
  obtain ⟨_, _, _, _, e, _⟩ := d
  exact ⟨_, e⟩
theorem rng_app {ds : List Int} {x : Int} (h : ∀ d ∈ ds, 0 ≤ d ∧ d < 1000) (h0 : 0 ≤ x) (h1 : x < 1000) : ∀ d ∈ ds ++ [x], 0 ≤ d ∧ d < 1000 := fun d hd => by
  rcases List.mem_append.mp hd with hd | hd
  · exact h d hd
  · rw [List.mem_singleton.mp hd]; exact ⟨h0, h1⟩

/-! ### drawn numbers and strings -/
def prC (c : Nat) : Bool := decide (32 ≤ c) && decide (c ≤ 126) && decide (c ≠ 37)
def isPr (z : Str) : Bool := z.cps.toList.all prC
theorem app_tl (a b : Str) : (a ++ b).cps.toList = a.cps.toList ++ b.cps.toList := by
  show (a.cps ++ b.cps).toList = _
  rw [Array.toList_append]
theorem len_tl (z : Str) : z.cps.toList.length = z.length := Array.length_toList
theorem isPr_app (a b : Str) : isPr (a ++ b) = (isPr a && isPr b) := by
  unfold isPr
  rw [app_tl, List.all_append]

/-! ### values as data: what stands at them does not change -/
def TupAt (K : PySem.W.Frag) (H : Hp) (a : Addr) (xs : List V) : Prop := H a = some (.tup xs) ∨ KTup K a xs
section
variable {K : PySem.W.Frag}
theorem TupAt.sq {H : Hp} {a : Addr} {xs : List V} (h : TupAt K H a xs) : SqT K H a xs := h.elim SqT.of .inr
theorem TupAt.ty {H : Hp} {a : Addr} {xs : List V} (h : TupAt K H a xs) : TyX K H (.ref a) (.type "tuple") := h.elim (fun h => .base (.tup h)) (fun ⟨_, _, _, h1, h2, _⟩ => .kTuple h1 h2)
theorem TupAt.same {H H' : Hp} {a : Addr} {xs : List V} (h : TupAt K H a xs) (s : Same H H') : TupAt K H' a xs := h.imp (s _ _) id
/-- none of those at A (none: no matter) -/
def NeA (A : Option Addr) (a : Addr) : Prop := match A with | some b => a ≠ b | none => True
mutual
/-- v is the data d; the lists in it are none of those at A -/
inductive Dt (K : PySem.W.Frag) (H : Hp) (A : Option Addr) : V → PyData → Prop
  | non : Dt K H A .non .none
  | bl (b : Bool) : Dt K H A (.bl b) (.bool b)
  | int (i : Int) : Dt K H A (.int i) (.int i)
  | str (z : Str) (h : z.length ≤ 1000000) : Dt K H A (.str z) (.str z)
  | lst {a : Addr} {xs : List V} {ds : List PyData} : NeA A a → H a = some (.lst xs) → DtAll K H A xs ds → Dt K H A (.ref a) (.list ds)
  | tup {a : Addr} {xs : List V} {ds : List PyData} : TupAt K H a xs → DtAll K H A xs ds → Dt K H A (.ref a) (.tuple ds)
inductive DtAll (K : PySem.W.Frag) (H : Hp) (A : Option Addr) : List V → List PyData → Prop
  | nil : DtAll K H A [] []
  | cons {v : V} {vs : List V} {d : PyData} {ds : List PyData} : Dt K H A v d → DtAll K H A vs ds → DtAll K H A (v :: vs) (d :: ds)
end
theorem DtAll.length {H : Hp} {A : Option Addr} : ∀ {xs : List V} {ds : List PyData}, DtAll K H A xs ds → xs.length = ds.length
  | _, _, .nil => rfl
  | _, _, .cons _ r => by rw [List.length_cons, List.length_cons, r.length]
theorem DtAll.get {H : Hp} {A : Option Addr} : ∀ {xs : List V} {ds : List PyData} {i : Nat} {x : V}, DtAll K H A xs ds → xs[i]? = some x → ∃ d, ds[i]? = some d ∧ Dt K H A x d
  | _, _, _, _, .nil, e => by simp at e
  | _, _, 0, x, .cons h _, e => by simp at e; subst e; exact ⟨_, rfl, h⟩
  | _, _, i + 1, x, .cons _ r, e => by
    obtain ⟨d, h1, h2⟩ := r.get (i := i) (x := x) (by simpa using e)
    exact ⟨d, by simpa using h1, h2⟩
theorem DtAll.getD {H : Hp} {A : Option Addr} {xs : List V} {ds : List PyData} {i : Nat} {d : PyData} (h : DtAll K H A xs ds) (e : ds[i]? = some d) : ∃ x, xs[i]? = some x ∧ Dt K H A x d := by
  have hi : i < ds.length := (List.getElem?_eq_some_iff.mp e).1
  have hi' : i < xs.length := by rw [h.length]; exact hi
  obtain ⟨d', h1, h2⟩ := h.get (List.getElem?_eq_getElem hi')
  rw [e] at h1
  cases h1
  exact ⟨_, List.getElem?_eq_getElem hi', h2⟩
mutual
theorem Dt.mod {H H' : Hp} {A D : Addr} (s : Mod A H H') (dr : Dr H D A) : ∀ (d : PyData) (v : V), Dt K H (some A) v d → Dt K H' (some A) v d
  | .none, _, h => by cases h; exact .non
  | .bool b, _, h => by cases h; exact .bl b
  | .int i, _, h => by cases h; exact .int i
  | .str z, _, h => by cases h with | str _ hz => exact .str z hz
  | .list ds, _, h => by cases h with | lst hn ha hd => exact .lst hn (s _ _ hn ha) (DtAll.mod s dr ds _ hd)
  | .tuple ds, _, h => by
    cases h with
    | tup ha hd =>
      obtain ⟨_, _, _, _, e, _⟩ := id dr
      exact .tup (ha.imp (fun ha => s _ _ (ne_of ha e (by intro z; cases z)) ha) id) (DtAll.mod s dr ds _ hd)
  | .dict _, _, h => by cases h
theorem DtAll.mod {H H' : Hp} {A D : Addr} (s : Mod A H H') (dr : Dr H D A) : ∀ (ds : List PyData) (xs : List V), DtAll K H (some A) xs ds → DtAll K H' (some A) xs ds
  | [], _, h => by cases h; exact .nil
  | d :: ds, _, h => by cases h with | cons h1 h2 => exact .cons (Dt.mod s dr d _ h1) (DtAll.mod s dr ds _ h2)
end
mutual
theorem Dt.same {H H' : Hp} {A : Option Addr} (s : Same H H') : ∀ (d : PyData) (v : V), Dt K H A v d → Dt K H' A v d
  | .none, _, h => by cases h; exact .non
  | .bool b, _, h => by cases h; exact .bl b
  | .int i, _, h => by cases h; exact .int i
  | .str z, _, h => by cases h with | str _ hz => exact .str z hz
  | .list ds, _, h => by cases h with | lst hn ha hd => exact .lst hn (s _ _ ha) (DtAll.same s ds _ hd)
  | .tuple ds, _, h => by cases h with | tup ha hd => exact .tup (ha.same s) (DtAll.same s ds _ hd)
  | .dict _, _, h => by cases h
theorem DtAll.same {H H' : Hp} {A : Option Addr} (s : Same H H') : ∀ (ds : List PyData) (xs : List V), DtAll K H A xs ds → DtAll K H' A xs ds
  | [], _, h => by cases h; exact .nil
  | d :: ds, _, h => by cases h with | cons h1 h2 => exact .cons (Dt.same s d _ h1) (DtAll.same s ds _ h2)
end
mutual
/-- data for a comparison -/
theorem Dt.dp {H : Hp} {A : Option Addr} : ∀ (d : PyData) (v : V), Dt K H A v d → Dp K H v d
  | .none, _, h => by cases h; exact .non
  | .bool b, _, h => by cases h; exact .bl b
  | .int i, _, h => by cases h; exact .int i
  | .str z, _, h => by cases h; exact .str z
  | .list ds, _, h => by cases h with | lst hn ha hd => exact .lst (SqL.of ha) (DtAll.dp ds _ hd)
  | .tuple ds, _, h => by cases h with | tup ha hd => exact .tup ha.sq (DtAll.dp ds _ hd)
  | .dict _, _, h => by cases h
theorem DtAll.dp {H : Hp} {A : Option Addr} : ∀ (ds : List PyData) (xs : List V), DtAll K H A xs ds → DpAll K H xs ds
  | [], _, h => by cases h; exact .nil
  | d :: ds, _, h => by cases h with | cons h1 h2 => exact .cons (Dt.dp d _ h1) (DtAll.dp ds _ h2)
end
theorem Dt.on {H H' : Hp} {A : Option Addr} {v : V} {d : PyData} (h : Dt K H A v d) (s : Same H H') : Dt K H' A v d := Dt.same s d v h
theorem DtAll.on {H H' : Hp} {A : Option Addr} {xs : List V} {ds : List PyData} (h : DtAll K H A xs ds) (s : Same H H') : DtAll K H' A xs ds := DtAll.same s ds xs h
theorem Dt.by {H H' : Hp} {A D : Addr} {v : V} {d : PyData} (h : Dt K H (some A) v d) (s : Mod A H H') (dr : Dr H D A) : Dt K H' (some A) v d := Dt.mod s dr d v h
theorem DtAll.by {H H' : Hp} {A D : Addr} {xs : List V} {ds : List PyData} (h : DtAll K H (some A) xs ds) (s : Mod A H H') (dr : Dr H D A) : DtAll K H' (some A) xs ds := DtAll.mod s dr ds xs h
theorem Dt.two {H : Hp} {A : Option Addr} {v : V} {d : PyData} (h : Dt K H A v d) : (∃ a xs ds, v = .ref a ∧ d = .tuple ds ∧ TupAt K H a xs ∧ DtAll K H A xs ds) ∨ (∃ T, TyX K H v (.type T) ∧ kitB T "tuple" = some false ∧ ∀ ds, d ≠ .tuple ds) := by
  cases h with
  | tup ha hx => exact .inl ⟨_, _, _, rfl, rfl, ha, hx⟩
  | str z hz => exact .inr ⟨_, .base (.str z), by decide +kernel, fun _ z => nomatch z⟩
  | int i => exact .inr ⟨_, .base (.int i), by decide +kernel, fun _ z => nomatch z⟩
  | non => exact .inr ⟨_, .base .non, by decide +kernel, fun _ z => nomatch z⟩
  | bl b => exact .inr ⟨_, .base (.bl b), by decide +kernel, fun _ z => nomatch z⟩
  | lst _ ha _ => exact .inr ⟨_, .base (.lst ha), by decide +kernel, fun _ z => nomatch z⟩
/-- the kind of a value -/
def dTy : PyData → String
  | .none => "NoneType" | .bool _ => "bool" | .int _ => "int" | .str _ => "str" | .list _ => "list" | .tuple _ => "tuple" | .dict _ => "dict"
theorem Dt.ty {H : Hp} {A : Option Addr} {v : V} {d : PyData} (h : Dt K H A v d) : TyX K H v (.type (dTy d)) := by
  cases h with
  | non => exact .base .non
  | bl b => exact .base (.bl b)
  | int i => exact .base (.int i)
  | str z _ => exact .base (.str z)
  | lst _ ha _ => exact .base (.lst ha)
  | tup ha _ => exact ha.ty
/-! the predicates of the program, upon data -/
def dInt (lo hi : Int) : PyData → Bool
  | .int i => decide (lo ≤ i ∧ i ≤ hi)
  | _ => false
def dShort (m : Int) : PyData → Bool
  | .str z => isPr z && decide ((z.length : Int) ≤ m)
  | _ => false
def dCmd : PyData → Bool
  | .tuple [c, n, t] => dInt (-100) (-1) c && dInt 1 1000000000000 n && dShort 240 t
  | _ => false
def dClient : PyData → Int
  | .tuple (.int c :: _) => c
  | _ => 0
def dAfter : Option Int → PyData → Bool
  | some k, d => decide (k < dClient d)
  | none, _ => true
def befV : Option Int → V
  | some k => .int k
  | none => .non
def dCmdsFrom : Option Int → List PyData → Bool
  | _, [] => true
  | b, d :: r => dCmd d && dAfter b d && dCmdsFrom (some (dClient d)) r
theorem dCmdsFrom_cons (b : Option Int) (d : PyData) (r : List PyData) : dCmdsFrom b (d :: r) = (dCmd d && dAfter b d && dCmdsFrom (some (dClient d)) r) := by cases b <;> rfl
theorem dCmdsFrom_nil (b : Option Int) : dCmdsFrom b [] = true := by cases b <;> rfl
def dCmds : PyData → Bool
  | .tuple ds => dCmdsFrom none ds
  | _ => false
def dHeight (parent : Int) (h : PyData) : Bool := if parent = 0 then dInt 1 1 h else dInt 2 (parent + 1) h
def dBlock4 (e p h cs : PyData) : Bool := match e, p with
  | .int e, .int p => dInt 1 1000000000000 (.int e) && dInt 0 (e - 1) (.int p) && dHeight p h && dCmds cs
  | _, _ => false
def dBlock : PyData → Bool
  | .tuple [e, p, h, cs] => dBlock4 e p h cs
  | _ => false
def dEmpty : PyData → Bool
  | .tuple [] => true
  | _ => false
def dGen : PyData → Bool
  | .tuple [e, p, h, cs] => dInt 0 0 e && dInt 0 0 p && dInt 0 0 h && dEmpty cs
  | _ => false
theorem DtAll.four {H : Hp} {A : Option Addr} {xs : List V} {ds : List PyData} (h : DtAll K H A xs ds) (hl : xs.length = 4) :
    ∃ x1 x2 x3 x4 d1 d2 d3 d4, xs = [x1, x2, x3, x4] ∧ ds = [d1, d2, d3, d4] ∧ Dt K H A x1 d1 ∧ Dt K H A x2 d2 ∧ Dt K H A x3 d3 ∧ Dt K H A x4 d4 := by
  match xs, ds, h with
  | [_, _, _, _], _, .cons h1 (.cons h2 (.cons h3 (.cons h4 .nil))) => exact ⟨_, _, _, _, _, _, _, _, rfl, rfl, h1, h2, h3, h4⟩
theorem dBlock4_e1 {e p h cs : PyData} (z : dInt 1 1000000000000 e = false) : dBlock4 e p h cs = false := by
  unfold dBlock4
  split
  · rw [z]; rfl
  · rfl
theorem dBlock4_e2 {e : Int} {p h cs : PyData} (z : dInt 0 (e - 1) p = false) : dBlock4 (.int e) p h cs = false := by
  unfold dBlock4
  split
  · rename_i h1
    cases h1
    rw [z, Bool.and_false]; rfl
  · rfl
/-- a predicate of one value, kept by growing heaps -/
def spPred (K : PySem.W.Frag) (A : Option Addr) (f : PyData → Bool) : Sp := fun vs H Q _ => ∃ (v : V) (d : PyData), vs = [v] ∧ Dt K H A v d ∧ ∀ H', Same H H' → Q (.bl (f d)) H'
def spIntD (K : PySem.W.Frag) (A : Option Addr) : Sp := fun vs H Q _ => ∃ (v : V) (d : PyData) (lo hi : Int), vs = [v, .int lo, .int hi] ∧ Dt K H A v d ∧ Q (.bl (dInt lo hi d)) H
def spShortD (K : PySem.W.Frag) (A : Option Addr) : Sp := fun vs H Q _ => ∃ (v : V) (d : PyData) (m : Int), vs = [v, .int m] ∧ Dt K H A v d ∧ ∀ H', Same H H' → Q (.bl (dShort m d)) H'
theorem dInt_inv {lo hi : Int} {d : PyData} (h : dInt lo hi d = true) : ∃ i, d = .int i ∧ lo ≤ i ∧ i ≤ hi := by
  cases d with
  | int i =>
    have h : decide (lo ≤ i ∧ i ≤ hi) = true := h
    exact ⟨i, rfl, (of_decide_eq_true h).1, (of_decide_eq_true h).2⟩
  | none => cases h
  | bool b => cases h
  | str z => cases h
  | list ds => cases h
  | tuple ds => cases h
  | dict k => cases h
theorem dShort_inv {m : Int} {d : PyData} (h : dShort m d = true) : ∃ z : Str, d = .str z ∧ isPr z = true ∧ (z.length : Int) ≤ m := by
  cases d with
  | str z =>
    have h : (isPr z && decide ((z.length : Int) ≤ m)) = true := h
    obtain ⟨h1, h2⟩ := Bool.and_eq_true_iff.mp h
    exact ⟨z, rfl, h1, of_decide_eq_true h2⟩
  | none => cases h
  | bool b => cases h
  | int i => cases h
  | list ds => cases h
  | tuple ds => cases h
  | dict k => cases h
theorem dCmd_inv {d : PyData} (h : dCmd d = true) : ∃ (c n : Int) (t : Str), d = .tuple [.int c, .int n, .str t] ∧ -100 ≤ c ∧ c ≤ -1 ∧ 1 ≤ n ∧ n ≤ 1000000000000 ∧ isPr t = true ∧ (t.length : Int) ≤ 240 := by
  unfold dCmd at h
  split at h
  · rename_i c n t
    rw [Bool.and_eq_true, Bool.and_eq_true] at h
    obtain ⟨⟨h1, h2⟩, h3⟩ := h
    obtain ⟨c, rfl, c0, c1⟩ := dInt_inv h1
    obtain ⟨n, rfl, n0, n1⟩ := dInt_inv h2
    obtain ⟨t, rfl, t0, t1⟩ := dShort_inv h3
    exact ⟨c, n, t, rfl, c0, c1, n0, n1, t0, t1⟩
  · cases h
/-- what a tuple of three ints, ints, texts stands for -/
theorem Dt.three {H : Hp} {A : Option Addr} {v : V} {d1 d2 d3 : PyData} (h : Dt K H A v (.tuple [d1, d2, d3])) : ∃ a x1 x2 x3, v = .ref a ∧ TupAt K H a [x1, x2, x3] ∧ Dt K H A x1 d1 ∧ Dt K H A x2 d2 ∧ Dt K H A x3 d3 := by
  cases h with
  | tup ha hd =>
    cases hd with
    | cons h1 hd =>
      cases hd with
      | cons h2 hd =>
        cases hd with
        | cons h3 hd =>
          cases hd
          exact ⟨_, _, _, _, rfl, ha, h1, h2, h3⟩
mutual
theorem Dt.any {H : Hp} {A : Option Addr} : ∀ (d : PyData) (v : V), Dt K H A v d → Dt K H none v d
  | .none, _, h => by cases h; exact .non
  | .bool b, _, h => by cases h; exact .bl b
  | .int i, _, h => by cases h; exact .int i
  | .str z, _, h => by cases h with | str _ hz => exact .str z hz
  | .list ds, _, h => by cases h with | lst hn ha hd => exact .lst trivial ha (DtAll.any ds _ hd)
  | .tuple ds, _, h => by cases h with | tup ha hd => exact .tup ha (DtAll.any ds _ hd)
  | .dict _, _, h => by cases h
theorem DtAll.any {H : Hp} {A : Option Addr} : ∀ (ds : List PyData) (xs : List V), DtAll K H A xs ds → DtAll K H none xs ds
  | [], _, h => by cases h; exact .nil
  | d :: ds, _, h => by cases h with | cons h1 h2 => exact .cons (Dt.any d _ h1) (DtAll.any ds _ h2)
end
theorem Dt.an {H : Hp} {A : Option Addr} {v : V} {d : PyData} (h : Dt K H A v d) : Dt K H none v d := Dt.any d v h
/-! data without lists -/
mutual
def noL : PyData → Bool
  | .list _ => false
  | .tuple ds => noLs ds
  | _ => true
def noLs : List PyData → Bool
  | [] => true
  | d :: r => noL d && noLs r
end
/-- tracked tuples stay -/
def Tp (H H' : Hp) : Prop := ∀ a xs, H a = some (.tup xs) → H' a = some (.tup xs)
mutual
theorem Dt.keep {H H' : Hp} {A B : Option Addr} (t : Tp H H') : ∀ (d : PyData) (v : V), noL d = true → Dt K H A v d → Dt K H' B v d
  | .none, _, _, h => by cases h; exact .non
  | .bool b, _, _, h => by cases h; exact .bl b
  | .int i, _, _, h => by cases h; exact .int i
  | .str z, _, _, h => by cases h with | str _ hz => exact .str z hz
  | .list ds, _, n, _ => by cases n
  | .tuple ds, _, n, h => by cases h with | tup ha hd => exact .tup (ha.imp (t _ _) id) (DtAll.keep t ds _ n hd)
  | .dict _, _, _, h => by cases h
theorem DtAll.keep {H H' : Hp} {A B : Option Addr} (t : Tp H H') : ∀ (ds : List PyData) (xs : List V), noLs ds = true → DtAll K H A xs ds → DtAll K H' B xs ds
  | [], _, _, h => by cases h; exact .nil
  | d :: ds, _, n, h => by
    have n : (noL d && noLs ds) = true := n
    rw [Bool.and_eq_true] at n
    cases h with | cons h1 h2 => exact .cons (Dt.keep t d _ n.1 h1) (DtAll.keep t ds _ n.2 h2)
end
theorem DtAll.snoc {H : Hp} {A : Option Addr} : ∀ {xs : List V} {ds : List PyData} {x : V} {d : PyData}, DtAll K H A xs ds → Dt K H A x d → DtAll K H A (xs ++ [x]) (ds ++ [d])
  | _, _, _, _, .nil, h => .cons h .nil
  | _, _, _, _, .cons h r, h2 => .cons h (r.snoc h2)
theorem TupAt.tp {H H' : Hp} {a : Addr} {xs : List V} (h : TupAt K H a xs) (t : Tp H H') : TupAt K H' a xs := h.imp (t _ _) id
theorem Same.tp {H H' : Hp} (s : Same H H') : Tp H H' := fun _ _ h => s _ _ h
theorem Mod.tp {H H' : Hp} {A D : Addr} (s : Mod A H H') (dr : Dr H D A) : Tp H H' := fun a xs h => by
  obtain ⟨_, _, _, _, e, _⟩ := id dr
  exact s _ _ (ne_of h e (by intro z; cases z)) h
theorem tp_put {H : Hp} {l : Addr} {xs ys : List V} (h : H l = some (.lst xs)) : Tp H (upd H l (.lst ys)) := fun a zs e => by
  rw [upd_ne (ne_of e h (by intro z; cases z))]; exact e
theorem dCmd_noL {d : PyData} (h : dCmd d = true) : noL d = true := by
  obtain ⟨c, n, t, rfl, _⟩ := dCmd_inv h
  rfl
theorem dCmdsFrom_noL : ∀ {ds : List PyData} {b : Option Int}, dCmdsFrom b ds = true → noLs ds = true
  | [], _, _ => rfl
  | d :: r, b, h => by
    rw [dCmdsFrom_cons, Bool.and_eq_true, Bool.and_eq_true] at h
    show (noL d && noLs r) = true
    rw [dCmd_noL h.1.1, dCmdsFrom_noL h.2]; rfl
theorem dCmdsFrom_all : ∀ {ds : List PyData} {b : Option Int}, dCmdsFrom b ds = true → ∀ d ∈ ds, dCmd d = true
  | [], _, _, _, m => nomatch m
  | d :: r, b, h, e, m => by
    rw [dCmdsFrom_cons, Bool.and_eq_true, Bool.and_eq_true] at h
    rcases List.mem_cons.mp m with rfl | m
    · exact h.1.1
    · exact dCmdsFrom_all h.2 e m
def lastC : Option Int → List PyData → Option Int
  | b, [] => b
  | _, d :: r => lastC (some (dClient d)) r
theorem lastC_snoc : ∀ (ds : List PyData) (b : Option Int) (d : PyData), lastC b (ds ++ [d]) = some (dClient d)
  | [], _, _ => rfl
  | _ :: r, _, d => lastC_snoc r _ d
theorem dCmdsFrom_snoc : ∀ (ds : List PyData) (b : Option Int) (d : PyData), dCmdsFrom b (ds ++ [d]) = (dCmdsFrom b ds && (dCmd d && dAfter (lastC b ds) d))
  | [], b, d => by
    show dCmdsFrom b [d] = _
    rw [dCmdsFrom_cons, dCmdsFrom_nil, dCmdsFrom_nil, Bool.and_true, Bool.true_and]; rfl
  | e :: r, b, d => by
    show dCmdsFrom b (e :: (r ++ [d])) = _
    rw [dCmdsFrom_cons, dCmdsFrom_snoc r, dCmdsFrom_cons, Bool.and_assoc, Bool.and_assoc, Bool.and_assoc]; rfl
end
theorem noLs_all : ∀ {ds : List PyData}, (∀ d ∈ ds, noL d = true) → noLs ds = true
  | [], _ => rfl
  | d :: r, h => by
    show (noL d && noLs r) = true
    rw [h d List.mem_cons_self, noLs_all (fun e he => h e (List.mem_cons_of_mem _ he))]; rfl

theorem same_none {H H' : Hp} {p : Addr} (s : Same H H') (h : H' p = none) : H p = none := by
  cases e : H p with
  | none => rfl
  | some o => rw [s p o e] at h; cases h

theorem atI_lt {α : Type} {xs : List α} {i : Int} (h0 : 0 ≤ i) (h1 : i < xs.length) : ∃ v, v ∈ xs ∧ atI xs i = some v := by
  obtain ⟨j, rfl⟩ := Int.eq_ofNat_of_zero_le h0
  have hj : j < xs.length := Int.ofNat_lt.mp h1
  exact ⟨xs[j], List.getElem_mem hj, atI_nat (List.getElem?_eq_getElem hj)⟩

/-- all but p and l are as they were -/
def But2 (p l : Addr) (H H' : Hp) : Prop := ∀ b o, b ≠ p → b ≠ l → H b = some o → H' b = some o
theorem But2.refl {p l : Addr} {H : Hp} : But2 p l H H := fun _ _ _ _ h => h
theorem But2.trans {p l : Addr} {H H1 H2 : Hp} (a : But2 p l H H1) (b : But2 p l H1 H2) : But2 p l H H2 := fun c o n m h => b c o n m (a c o n m h)
theorem Same.but2 {p l : Addr} {H H' : Hp} (s : Same H H') : But2 p l H H' := fun b o _ _ h => s b o h

/-! ### dicts as lists of pairs -/
section
variable {κ α : Type} [DecidableEq κ]
def gA (ks : List (κ × α)) (c : κ) : Option α := (ks.find? fun k => decide (k.1 = c)).map (·.2)
def pA (ks : List (κ × α)) (c : κ) (x : α) : List (κ × α) := if (ks.any fun k => decide (k.1 = c)) = true then ks.map (fun k => if k.1 = c then (k.1, x) else k) else ks ++ [(c, x)]
/-- the pairs as they stand in a dict -/
def kvs (em : κ → Key) (f : α → V) (ks : List (κ × α)) : List (Key × V) := ks.map fun k => (em k.1, f k.2)
def kOk (ks : List (κ × α)) : Prop := (ks.map (·.1)).Nodup
theorem gA_kvs {em : κ → Key} (inj : ∀ a b, em a = em b → a = b) (f : α → V) : ∀ (ks : List (κ × α)) (c : κ), valV (kvs em f ks) (em c) = (gA ks c).map f
  | [], _ => rfl
  | k :: r, c => by
    have ih := gA_kvs inj f r c
    unfold kvs valV gA at ih ⊢
    rw [List.map_cons, List.find?_cons, List.find?_cons]
    by_cases h : k.1 = c
    · have h1 : decide (em k.1 = em c) = true := decide_eq_true (by rw [h])
      rw [h1, decide_eq_true h]; rfl
    · have h1 : decide (em k.1 = em c) = false := decide_eq_false (fun z => h (inj _ _ z))
      rw [h1, decide_eq_false h]; exact ih
theorem pA_kvs {em : κ → Key} (inj : ∀ a b, em a = em b → a = b) (f : α → V) (ks : List (κ × α)) (c : κ) (x : α) : putK (kvs em f ks) (em c) (f x) = kvs em f (pA ks c x) := by
  have e : ∀ k : κ × α, decide (em k.1 = em c) = decide (k.1 = c) := fun k => decide_eq_decide.mpr ⟨fun z => inj _ _ z, fun z => by rw [z]⟩
  unfold putK pA kvs
  rw [List.any_map, show ((fun kv : Key × V => decide (kv.1 = em c)) ∘ fun k : κ × α => (em k.1, f k.2)) = fun k => decide (k.1 = c) from funext e]
  split
  · rw [List.map_map, List.map_map]
    refine List.map_congr_left fun k _ => ?_
    show (if em k.1 = em c then (em k.1, f x) else (em k.1, f k.2)) = (fun k : κ × α => (em k.1, f k.2)) (if k.1 = c then (k.1, x) else k)
    by_cases h : k.1 = c
    · rw [if_pos h, if_pos (by rw [h])]
    · rw [if_neg h, if_neg (fun z => h (inj _ _ z))]
  · rw [List.map_append]; rfl
theorem pA_len (ks : List (κ × α)) (c : κ) (x : α) : (pA ks c x).length ≤ ks.length + 1 := by
  unfold pA
  split
  · rw [List.length_map]; omega
  · rw [List.length_append]; exact Nat.le_refl _
theorem kvs_len (em : κ → Key) (f : α → V) (ks : List (κ × α)) : (kvs em f ks).length = ks.length := List.length_map _
theorem any_mem {ks : List (κ × α)} {c : κ} : (ks.any fun k => decide (k.1 = c)) = true ↔ c ∈ ks.map (·.1) := by
  rw [List.any_eq_true, List.mem_map]
  constructor
  · rintro ⟨k, hk, e⟩; exact ⟨k, hk, of_decide_eq_true e⟩
  · rintro ⟨k, hk, e⟩; exact ⟨k, hk, decide_eq_true e⟩
theorem pA_keys (ks : List (κ × α)) (c : κ) (x : α) : (pA ks c x).map (·.1) = if c ∈ ks.map (·.1) then ks.map (·.1) else ks.map (·.1) ++ [c] := by
  unfold pA
  by_cases h : c ∈ ks.map (·.1)
  · rw [if_pos (any_mem.mpr h), if_pos h, List.map_map]
    refine List.map_congr_left fun k _ => ?_
    show (if k.1 = c then (k.1, x) else k).1 = k.1
    split <;> rfl
  · rw [if_neg (fun z => h (any_mem.mp z)), if_neg h, List.map_append]; rfl
theorem pA_ok {ks : List (κ × α)} (c : κ) (x : α) (h : kOk ks) : kOk (pA ks c x) := by
  unfold kOk at *
  rw [pA_keys]
  split
  · exact h
  · rename_i hn
    rw [List.nodup_append]
    refine ⟨h, by simp, fun a ha b hb => ?_⟩
    have hb : b = c := by simpa using hb
    rw [hb]
    intro e
    exact hn (e ▸ ha)
theorem gA_none {ks : List (κ × α)} {c : κ} : gA ks c = none ↔ c ∉ ks.map (·.1) := by
  unfold gA
  rw [Option.map_eq_none_iff, List.find?_eq_none]
  constructor
  · intro h m
    obtain ⟨k, hk, e⟩ := List.mem_map.mp m
    exact h k hk (decide_eq_true e)
  · intro h k hk e
    exact h (List.mem_map.mpr ⟨k, hk, of_decide_eq_true e⟩)
theorem gA_mem : ∀ {ks : List (κ × α)} {k : κ × α}, kOk ks → k ∈ ks → gA ks k.1 = some k.2
  | q :: r, k, h, m => by
    unfold kOk at h
    rw [List.map_cons, List.nodup_cons] at h
    unfold gA
    rw [List.find?_cons]
    rcases List.mem_cons.mp m with rfl | m
    · rw [decide_eq_true rfl]; rfl
    · by_cases e : q.1 = k.1
      · exact absurd (e ▸ List.mem_map_of_mem (f := (·.1)) m) h.1
      · rw [decide_eq_false e]
        exact gA_mem (ks := r) h.2 m
theorem gA_some {ks : List (κ × α)} {c : κ} {x : α} (h : gA ks c = some x) : (c, x) ∈ ks := by
  unfold gA at h
  rw [Option.map_eq_some_iff] at h
  obtain ⟨k, h1, rfl⟩ := h
  have h2 := List.find?_some h1
  have h3 := List.mem_of_find?_eq_some h1
  have : k.1 = c := of_decide_eq_true h2
  rw [← this]; exact h3
theorem pA_mem {ks : List (κ × α)} {c : κ} {x : α} {k : κ × α} (h : k ∈ pA ks c x) : k = (c, x) ∨ (k ∈ ks ∧ k.1 ≠ c) := by
  unfold pA at h
  split at h
  · obtain ⟨q, hq, e⟩ := List.mem_map.mp h
    by_cases hc : q.1 = c
    · rw [if_pos hc] at e; exact .inl (by rw [← e, hc])
    · rw [if_neg hc] at e; subst e; exact .inr ⟨hq, hc⟩
  · rename_i hn
    rcases List.mem_append.mp h with h | h
    · exact .inr ⟨h, fun e => hn (any_mem.mpr (List.mem_map.mpr ⟨k, h, e⟩))⟩
    · exact .inl (List.mem_singleton.mp h)
theorem gA_put {ks : List (κ × α)} (h : kOk ks) (c d : κ) (x : α) : gA (pA ks c x) d = if d = c then some x else gA ks d := by
  have h2 := pA_ok c x h
  by_cases e : d = c
  · subst e
    rw [if_pos rfl]
    have hm : d ∈ (pA ks d x).map (·.1) := by
      rw [pA_keys]; split
      · assumption
      · exact List.mem_append_right _ (List.mem_singleton.mpr rfl)
    obtain ⟨k, hk, ek⟩ := List.mem_map.mp hm
    have := gA_mem h2 hk
    rw [ek] at this
    rw [this]
    rcases pA_mem hk with e | ⟨_, e⟩
    · rw [e]
    · exact absurd ek e
  · rw [if_neg e]
    cases g : gA ks d with
    | none =>
      rw [gA_none] at g ⊢
      rw [pA_keys]
      split
      · exact g
      · intro m
        rcases List.mem_append.mp m with m | m
        · exact g m
        · exact e (List.mem_singleton.mp m)
    | some y =>
      have hm := gA_some g
      have : (d, y) ∈ pA ks c x := by
        unfold pA
        split
        · exact List.mem_map.mpr ⟨(d, y), hm, if_neg e⟩
        · exact List.mem_append_left _ hm
      exact gA_mem h2 this
theorem kvs_keys {em : κ → Key} {f : α → V} {ks : List (κ × α)} : (kvs em f ks).map (·.1) = (ks.map (·.1)).map em := by
  unfold kvs
  rw [List.map_map, List.map_map]; rfl
end
theorem inlI : ∀ a b : Int, (Sum.inl a : Key) = Sum.inl b → a = b := fun _ _ z => Sum.inl.inj z
theorem inrI : ∀ a b : Str, (Sum.inr a : Key) = Sum.inr b → a = b := fun _ _ z => Sum.inr.inj z

/-! ### data for comparisons: shape and depth -/
def Ly (k : Nat) (d : PyData) : Prop := d.canLay0 = true ∧ d.depth ≤ k
theorem ly_all {k : Nat} : ∀ {ds : List PyData}, (∀ d ∈ ds, Ly k d) → PyData.canLayAll0 ds = true ∧ PyData.depthAll ds ≤ k
  | [], _ => ⟨by simp [PyData.canLayAll0], by simp [PyData.depthAll]⟩
  | d :: r, h => by
    obtain ⟨i1, i2⟩ := ly_all fun z hz => h z (List.mem_cons_of_mem _ hz)
    obtain ⟨l1, l2⟩ := h d List.mem_cons_self
    constructor
    · rw [PyData.canLayAll0, i1, l1]; rfl
    · rw [PyData.depthAll]; omega
theorem ly_tup {k : Nat} {ds : List PyData} (h : ∀ d ∈ ds, Ly k d) : Ly (k + 1) (.tuple ds) := by
  obtain ⟨a, b⟩ := ly_all h
  exact ⟨by rw [PyData.canLay0]; exact a, by rw [PyData.depth]; omega⟩
theorem ly_lst {k : Nat} {ds : List PyData} (h : ∀ d ∈ ds, Ly k d) : Ly (k + 1) (.list ds) := by
  obtain ⟨a, b⟩ := ly_all h
  exact ⟨by rw [PyData.canLay0]; exact a, by rw [PyData.depth]; omega⟩
theorem ly_int {k : Nat} (i : Int) : Ly k (.int i) := ⟨by simp [PyData.canLay0], by simp [PyData.depth]⟩
theorem ly_non {k : Nat} : Ly k .none := ⟨by simp [PyData.canLay0], by simp [PyData.depth]⟩
theorem ly_bl {k : Nat} (b : Bool) : Ly k (.bool b) := ⟨by simp [PyData.canLay0], by simp [PyData.depth]⟩
theorem ly_str {k : Nat} {z : Str} (h : PyData.strOk z = true) : Ly k (.str z) := ⟨by simp [PyData.canLay0, h], by simp [PyData.depth]⟩
theorem Ly.mono {k j : Nat} {d : PyData} (h : Ly k d) (le : k ≤ j) : Ly j d := ⟨h.1, Nat.le_trans h.2 le⟩
theorem ly_nil {k : Nat} : ∀ d ∈ ([] : List PyData), Ly k d := fun _ m => nomatch m
theorem ly_cons {k : Nat} {d : PyData} {r : List PyData} (h : Ly k d) (hr : ∀ d ∈ r, Ly k d) : ∀ e ∈ d :: r, Ly k e := fun e m => by
  rcases List.mem_cons.mp m with rfl | m
  · exact h
  · exact hr e m
theorem ly_app {k : Nat} {r s : List PyData} (hr : ∀ d ∈ r, Ly k d) (hs : ∀ d ∈ s, Ly k d) : ∀ e ∈ r ++ s, Ly k e := fun e m => by
  rcases List.mem_append.mp m with m | m
  · exact hr e m
  · exact hs e m
theorem shpL {d : PyData} (h : Ly 20 d) : SeqAt.shaped d = true ∧ PyData.eqv d d = true := by
  refine ⟨?_, SeqAt.eqv_refl _ h.1⟩
  unfold SeqAt.shaped
  rw [h.1, decide_eq_true (by have := h.2; omega)]; rfl

section
open Calls
theorem kbm {X : Cx} {K : PySem.W.Frag} {T : String} {name : Str} {id : String} {r : V → List V → Hp → VK → Prop} {to : TE} {t : TA} {o e : Expr} {es : List Expr} {apos cpos : Pos} (pa : PlainAttrs T) (slot : Slot T name id) (hty : typeOf (.builtin id) = pure (.type "method_descriptor")) (hm : MtR X id r) (ho : PE X o to) (ha : PA X (e :: es) t)
    (hbase : attributeBase o name X.env (eval o X.env) = eval o X.env := by rfl)
    (hfew : ((backTo cpos (starEach (e :: es) X.env)).all (fun x => !x.1) && (backToKw cpos (keywordEach [] X.env)).all (fun x => x.1.isSome)
      && decide ((e :: es).length + ([] : List Keyword).length + (if ([] : List Keyword).isEmpty then 0 else 1) < 30)) = true := by rfl)
    (hline : (apos.endLine == cpos.line) = true := by rfl) (hs : starEach (e :: es) X.env = (false, eval e X.env) :: starEach es X.env := by rfl) (hplain : (backTo cpos (starEach es X.env)).any (·.1) = false := by rfl) (hK : X.K = K := by rfl) :
    PE X (.Call (.Attribute o name apos) (e :: es) [] cpos) (tBM K T r to t) := by
  subst hK
  exact pe_bm pa slot hty hm ho ha hbase hfew hline hs hplain
end

/-! ### sorted(d), d a dict with text keys, of any length -/
def sortS (ks : List Str) : List Str := ks.mergeSort (PySem.W.dataLe false PyData.str)
theorem sortS_perm (ks : List Str) : (sortS ks).Perm ks := List.mergeSort_perm ks _
theorem sortS_len (ks : List Str) : (sortS ks).length = ks.length := (sortS_perm ks).length_eq
section
open PySem.W PyProof.Rows
theorem each_of_strs {us : List Value} {ks : List Str} (h : StrsAre us ks) : EachIs (fun v x => ∃ t, v = .str x t) us ks := by
  induction h with
  | nil => exact .nil
  | cons y t _ ih => exact .cons ⟨_, rfl⟩ ih
end
section
open PySem.W PyProof.Rows
variable {X : Cx}
theorem vals_strs : ∀ {us : List Value} {ks : List Str}, EachIs (fun v x => ∃ t, v = .str x t) us ks → Vals (ks.map V.str) us
  | _, _, .nil => .nil
  | _, _, .cons ⟨t, h1⟩ r => .cons ⟨t, h1⟩ (vals_strs r)
theorem call_sortedDS (hcalm : X.calm = true) (hu : X.A.units + 65 < cLine) : CallR X (.builtin "sorted") (fun xs H Q => ∃ (a : Addr) (kvs : List (Key × V)) (ks : List Str), xs = [.ref a] ∧ Rd H a (.dK kvs) ∧ kvs.map (·.1) = ks.map Sum.inr ∧ ks.length ≤ 100000 ∧
    ∀ p, H p = none → Q (.ref p) (upd H p (.lst ((sortS ks).map V.str)))) := by
  intro pins s σ H xs us Q I r q
  obtain ⟨a, kvs, ks, ex, hd, hks, h64, q⟩ := q
  subst ex
  obtain ⟨u, eu, rx⟩ := vals1 r
  subst eu
  cases rx
  obtain ⟨z, lo, vs, rel, dd⟩ := dk_rd I.hok hd
  obtain ⟨ep, hat⟩ := dd.dictAt
  have hkeys : vs.map (·.1) = ks.map Sum.inr := rel.keys.symm.trans hks
  have hl : vs.length = ks.length := by
    have e := congrArg List.length hkeys
    rw [List.length_map, List.length_map] at e
    exact e
  have h16 : vs.length ≤ sizeLine := by rw [hl]; exact sz1000 h64
  refine Calls.call_function_entry PyProof.Rows.kind_sorted PyProof.Rows.plain_sorted PyProof.Rows.entry_sorted (PyProof.Rows.args_sorted1 _) ?_
  unfold Builtin.«sorted»
  refine wpAny_bind (m := checkCount "sorted" 1 1 _) (wpAny_pure ?_)
  refine wpAny_bind (PySem.W.kdu_collect (A := X.A.in1) (PySem.W.kdl_dict (knd := mixKind X.prog X.w) (kvs := vs) (ep := ep) lo) (I.ok.hd hcalm) hat h16 fun h' tk acc hk hacc => ?_)
  have hal : acc.toList.length = ks.length := by rw [Array.length_toList, hacc.1, hl]
  have hS : StrsAre acc.toList ks := strs_at hal fun j v e => by
    obtain ⟨k, x, e1, e2⟩ := hacc.2 j v (by rw [← Array.getElem?_toList]; exact e)
    have e3 : (vs.map (·.1))[j]? = some k := by rw [List.getElem?_map, e1]; all_goals rfl
    rw [hkeys, List.getElem?_map] at e3
    cases e4 : ks[j]? with
    | none => rw [e4] at e3; cases e3
    | some y =>
      rw [e4] at e3
      have e5 : Sum.inr y = k := Option.some.inj e3
      subst e5
      obtain ⟨t, ev⟩ := Value.isStrOf_shape (x := y) (v := v) e2
      exact ⟨y, t, rfl, ev⟩
  have I1 : Inv X pins σ H { s with heap := h', toks := tk } := I.kept hk
  refine wpAny_bind (wpAny_newList ?_ (by rw [hal]; exact sz1000 h64))
  have hoL : (h'.push (seqObj "list" acc.toList.toArray 0)).get? h'.objs.size = some (seqObj "list" acc.toList.toArray 0) := Heap.get?_push_size _ rfl
  show wpAny _ _ _ _ _ { s with heap := h'.push (seqObj "list" acc.toList.toArray 0), toks := tk }
  have eS := each_of_strs hS
  refine wpAny_bind (wpAny_holding (list_sort_data (A := X.A.in1) (s := { s with heap := h'.push (seqObj "list" acc.toList.toArray 0), toks := tk }) (R := fun v x => ∃ t, v = .str x t) (enc := PyData.str) hoL eS (eS.mono fun v b h => by obtain ⟨t, e⟩ := h; exact ⟨[], by rw [e]; exact .str _ _, by simp⟩) (AllAlike.of fun b b' => by simp [alike]) (Sortable.others fun b => ⟨(by intro z; cases z), (by intro xs z; cases z)⟩) (sz1000 h64) (fun b _ => by show X.A.units + 1 + 1 + _ < _; simp only [PyData.depth]; omega) fun out ho eo => ?_))
  obtain ⟨e', he'⟩ := PyProof.Rows.sortedHeap_at (vs := acc.toList) (out := out.toArray) hoL
  have hlen : ((sortS ks).map V.str).length ≤ sizeLine := by
    rw [List.length_map, sortS_len]
    exact sz1000 h64
  refine wpAny_pure ⟨_, rfl, .ref h'.objs.size, upd H h'.objs.size (.lst ((sortS ks).map V.str)), I1.laid (t' := tk) (fun b u e => ?_) (Nat.le_refl _)
    (show ObjOk X.prog X.w _ _ _ (.lst ((sortS ks).map V.str)) from ⟨hlen, out, e', vals_strs eo, he'⟩), rfl, q _ (I1.hok.fresh (Nat.le_refl _))⟩
  have hb : b < h'.objs.size := Heap.lt_size e
  rw [PyProof.Rows.sortedHeap_old (Nat.ne_of_lt hb) (by rw [size_push']; exact Nat.lt_succ_of_lt hb)]
  exact Heap.get?_push_of_some _ e
end

/-! ### Refused(reason) -/
def spInit1 (C : Addr) (f : Str) : Sp := fun vs H Q _ => ∃ (a : Addr) (r : V), vs = [.ref a, r] ∧ H a = some (exo a C none) ∧
  ∀ d, H d = none → d ≠ a → Q .non (upd (upd H d (exd d [(f, r)])) a (exo a C (some d)))
theorem mk_one {C : Addr} {f : Str} {H1 : Hp} {Q : XK} {r : V} (q : ∀ H' d, Same H1 H' → H1 d = none → H' d = some (.xd [(f, r)]) → Q (.ref C) (some d) H') :
    ([r] : List V).length ≤ 1000 ∧ ∀ a, H1 a = none → spInit1 C f (.ref a :: ([r] ++ [])) (upd H1 a (exo a C none)) (fun v H2 => v = .non ∧ ∃ (d : Addr) (fs : List (Str × V)), H2 a = some (exo a C (some d)) ∧ H2 d = some (exd d fs) ∧ H1 d = none ∧ Q (.ref C) (some d) (upd (del H2 a) d (.xd fs))) (fun _ _ _ => False) := by
  refine ⟨by show 1 ≤ 1000; decide, fun a ha => ⟨a, r, rfl, upd_same, fun d hd hne => ⟨rfl, d, [(f, r)], upd_same, ?_, ?_, q _ d ?_ ?_ upd_same⟩⟩⟩
  · rw [upd_ne hne]; exact upd_same
  · rw [upd_ne hne] at hd; exact hd
  · intro b o e
    have hb : b ≠ d := fun z => by rw [z] at e; rw [upd_ne hne] at hd; rw [hd] at e; cases e
    have hba : b ≠ a := fun z => by rw [z, ha] at e; cases e
    rw [upd_ne hb, del_ne hba, upd_ne hba, upd_ne hb, upd_ne hba]
    exact e
  · rw [upd_ne hne] at hd; exact hd
/-- Refused(r) is raised -/
def Rz (B : Addr) (H : Hp) (E : XK) (r : Str) : Prop := ∀ H' d, Same H H' → H' d = some (.xd [("reason", .str r)]) → E (.ref B) (some d) H'
theorem Rz.on {B : Addr} {H H1 : Hp} {E : XK} {r : Str} (h : Rz B H E r) (s : Same H H1) : Rz B H1 E r := fun H' d s' e => h H' d (s.trans s') e
section
variable {P : Program} {w : World} {K : PySem.W.Frag} {mg : Str → Option Value} {base : Heap}
theorem i_Refused {C_Store : Addr} {C_Refused : Addr} (T : Txt K mg C_Store C_Refused) : ExMk P w K mg base 1 "Refused" C_Refused (spInit1 C_Refused "reason") := by
  refine exmk T.x_Refused T.ei_Refused sc_Refused____init__ (fun vs H Q E h => ?_) (fun f cdv A' outer s H vs Q E hr h => ?_)
  · obtain ⟨a, r, rfl, _⟩ := h; rfl
  obtain ⟨a, r, rfl, ha, q⟩ := h
  refine ⟨_, (pss_one (ps_ost (pv 0) (pv 1))), ?_⟩
  walk_at "rds"
  refine ⟨a, C_Refused, rfl, T.x_Refused.ox, T.xn_Refused_reason, .inl ⟨ha, fun d hd hne => ?_⟩⟩
  exact q d hd hne
end

/-! ### the store -/
abbrev ST := List (Str × (Int × Str))
def owD (ks : ST) : List (Key × V) := kvs Sum.inr (fun x => V.int x.1) ks
def vaD (ks : ST) : List (Key × V) := kvs Sum.inr (fun x => V.str x.2) ks
def rmA {κ α : Type} [DecidableEq κ] (ks : List (κ × α)) (c : κ) : List (κ × α) := ks.filter fun k => decide (k.1 ≠ c)
theorem dropK_rmA {κ α : Type} [DecidableEq κ] {em : κ → Key} (inj : ∀ a b, em a = em b → a = b) (f : α → V) (ks : List (κ × α)) (c : κ) : dropK (kvs em f ks) (em c) = kvs em f (rmA ks c) := by
  unfold dropK kvs rmA
  rw [List.filter_map]
  congr 1
  refine List.filter_congr fun k _ => ?_
  show decide (em k.1 ≠ em c) = decide (k.1 ≠ c)
  exact decide_eq_decide.mpr ⟨fun n z => n (by rw [z]), fun n z => n (inj _ _ z)⟩
theorem rmA_len {κ α : Type} [DecidableEq κ] (ks : List (κ × α)) (c : κ) : (rmA ks c).length ≤ ks.length := List.length_filter_le _ _
theorem rmA_ok {κ α : Type} [DecidableEq κ] {ks : List (κ × α)} (c : κ) (h : kOk ks) : kOk (rmA ks c) := List.Nodup.sublist (List.Sublist.map _ List.filter_sublist) h
def stF (n a : Addr) : List (Str × V) := putF "_values" (.ref a) (putF "_owners" (.ref n) [])
structure StAt (C : Addr) (H : Hp) (p n a : Addr) (ks : ST) : Prop where
  ins : ∃ dx, H p = some (.ins C dx (stF n a))
  ow : H n = some (.dK (owD ks))
  va : H a = some (.dK (vaD ks))
  ne : n ≠ a
theorem StAt.on {C : Addr} {H H' : Hp} {p n a : Addr} {ks : ST} (h : StAt C H p n a ks) (s : Same H H') : StAt C H' p n a ks := by
  obtain ⟨⟨dx, h1⟩, h2, h3, h4⟩ := h
  exact ⟨⟨dx, s _ _ h1⟩, s _ _ h2, s _ _ h3, h4⟩
theorem ow_val (ks : ST) (c : Str) : valV (owD ks) (Sum.inr c : Key) = (gA ks c).map fun x => V.int x.1 := gA_kvs inrI _ ks c
theorem va_val (ks : ST) (c : Str) : valV (vaD ks) (Sum.inr c : Key) = (gA ks c).map fun x => V.str x.2 := gA_kvs inrI _ ks c
/-- what the operations do -/
def stPut (ks : ST) (c : Int) (k v : Str) : Sum Str ST := match gA ks k with
  | some x => if x.1 ≠ c then .inl "owner" else .inr (pA ks k (c, v))
  | none => if 200 ≤ ks.length then .inl "full" else .inr (pA ks k (c, v))
def stRead (ks : ST) (k : Str) : Sum Str Str := match gA ks k with
  | some x => .inr x.2
  | none => .inl "missing"
def stDrop (ks : ST) (c : Int) (k : Str) : Sum Str ST := match gA ks k with
  | some x => if x.1 ≠ c then .inl "owner" else .inr (rmA ks k)
  | none => .inl "missing"
def stSwap (ks : ST) (k o v : Str) : Sum Str ST := match gA ks k with
  | some x => if x.2 ≠ o then .inl "need" else .inr (pA ks k (x.1, v))
  | none => .inl "missing"
def Out (B C : Addr) (H : Hp) (p n a : Addr) (Q : VK) (E : XK) (r : Sum Str ST) : Prop := match r with
  | .inl z => Rz B H E z
  | .inr ks => ∀ H', But2 n a H H' → StAt C H' p n a ks → Q .non H'
def spStInit (C : Addr) : Sp := fun vs H Q _ => ∃ (p dx : Addr), vs = [.ref p] ∧ H p = some (.ins C dx []) ∧
  ∀ (H' : Hp) (n a : Addr), (∀ b o, H b = some o → b ≠ p → H' b = some o) → H n = none → H a = none → StAt C H' p n a [] → Q .non H'
def spStCheck (B C : Addr) : Sp := fun vs H Q E => ∃ (p n a : Addr) (ks : ST) (k : Str), vs = [.ref p, .str k] ∧ StAt C H p n a ks ∧ (gA ks k = none → Rz B H E "missing") ∧ (∀ x, gA ks k = some x → Q .non H)
def spStOwner (B C : Addr) : Sp := fun vs H Q E => ∃ (p n a : Addr) (ks : ST) (c : Int) (k : Str) (x : Int × Str), vs = [.ref p, .int c, .str k] ∧ StAt C H p n a ks ∧ gA ks k = some x ∧ (x.1 ≠ c → Rz B H E "owner") ∧ (x.1 = c → Q .non H)
def spStPut (B C : Addr) : Sp := fun vs H Q E => ∃ (p n a : Addr) (ks : ST) (c : Int) (k v : Str), vs = [.ref p, .int c, .str k, .str v] ∧ StAt C H p n a ks ∧ ks.length ≤ 1000 ∧ Out B C H p n a Q E (stPut ks c k v)
def spStRead (B C : Addr) : Sp := fun vs H Q E => ∃ (p n a : Addr) (ks : ST) (k : Str), vs = [.ref p, .str k] ∧ StAt C H p n a ks ∧ (match stRead ks k with
  | .inl z => Rz B H E z
  | .inr v => Q (.str v) H)
def spStDrop (B C : Addr) : Sp := fun vs H Q E => ∃ (p n a : Addr) (ks : ST) (c : Int) (k : Str), vs = [.ref p, .int c, .str k] ∧ StAt C H p n a ks ∧ Out B C H p n a Q E (stDrop ks c k)
def spStSwap (B C : Addr) : Sp := fun vs H Q E => ∃ (p n a : Addr) (ks : ST) (k o v : Str), vs = [.ref p, .str k, .str o, .str v] ∧ StAt C H p n a ks ∧ kOk ks ∧ ks.length ≤ 1000 ∧ Out B C H p n a Q E (stSwap ks k o v)
def spStClone (C : Addr) : Sp := fun vs H Q _ => ∃ (p n a : Addr) (ks : ST), vs = [.ref p] ∧ StAt C H p n a ks ∧
  ∀ H' p' n' a', Same H H' → H p' = none → H n' = none → H a' = none → StAt C H' p' n' a' ks → Q (.ref p') H'
def srowD (ks : ST) (k : Str) : PyData := match gA ks k with
  | some x => .tuple [.str k, .int x.1, .str x.2]
  | none => .none
def sortK (ks : ST) : List Str := sortS (ks.map (·.1))
theorem sortK_mem {ks : ST} {k : Str} : k ∈ sortK ks ↔ k ∈ ks.map (·.1) := (sortS_perm _).mem_iff
theorem sortK_len (ks : ST) : (sortK ks).length = ks.length := by unfold sortK; rw [sortS_len, List.length_map]
def Short (ks : ST) : Prop := ∀ k ∈ ks, k.1.length ≤ 1000 ∧ k.2.2.length ≤ 1000 ∧ PyData.strOk k.1 = true ∧ PyData.strOk k.2.2 = true
def spStRows (K : PySem.W.Frag) (C : Addr) : Sp := fun vs H Q _ => ∃ (p n a : Addr) (ks : ST), vs = [.ref p] ∧ StAt C H p n a ks ∧ ks.length ≤ 1000 ∧ kOk ks ∧ Short ks ∧
  ∀ (xs : List V) H' r, Same H H' → H r = none → H' r = some (.lst xs) → DtAll K H' none xs ((sortK ks).map (srowD ks)) → Q (.ref r) H'
def spStMatch (C : Addr) : Sp := fun vs H Q _ => ∃ (p n a : Addr) (ks : ST) (z : Str), vs = [.ref p, .str z] ∧ StAt C H p n a ks ∧ ks.length ≤ 1000 ∧
  ∀ H' r, Same H H' → H r = none → H' r = some (.lst (((sortK ks).filter fun k => Txt.startswith k z).map V.str)) → Q (.ref r) H'
section
variable {P : Program} {w : World} {K : PySem.W.Frag} {mg : Str → Option Value} {base : Heap}
theorem k_Store {C_Store : Addr} {C_Refused : Addr} (T : Txt K mg C_Store C_Refused) : Mak P w K mg base 1 "Store" C_Store (spStInit C_Store) [] := by
  refine mak T.g_Store T.mk_Store sc_Store____init__ (fun vs H Q E h => ?_) (fun f cdv A outer s H vs Q E hr h => ?_)
  · obtain ⟨p, dx, rfl, _⟩ := h; rfl
  obtain ⟨p, dx, rfl, hp, q⟩ := h
  refine ⟨_, (pss_cons (ps_fld (pv 0) pe_dnewK rfl)
      (pss_one (ps_fld (pv 0) pe_dnewK rfl))), ?_⟩
  intro n hn
  walk_at "rds"
  refine ⟨p, _, dx, _, rfl, (same_upd hn) _ _ hp, T.cl_Store, T.na_Store__owners, by decide, ?_⟩
  have hnp : n ≠ p := (ne_of_none hp hn).symm
  intro a ha
  have hap : a ≠ p := (ne_of_none upd_same ha).symm
  have ha1 : upd H n (.dK []) a = none := by rw [upd_ne hap] at ha; exact ha
  have han : n ≠ a := ne_of_none upd_same ha1
  have ha0 : H a = none := same_none (same_upd hn) ha1
  walk_at "rds"
  refine ⟨p, _, dx, _, rfl, (by rw [upd_ne hap.symm]; exact upd_same), T.cl_Store, T.na_Store__values, (by show 1 < 1000; decide), ?_⟩
  refine q _ n a (fun b o e nb => ?_) hn ha0 ⟨⟨dx, upd_same⟩, ?_, ?_, han⟩
  · rw [upd_ne nb, upd_ne (ne_of_none e ha0), upd_ne nb, upd_ne (ne_of_none e hn)]; exact e
  · rw [upd_ne hnp, upd_ne han, upd_ne hnp]; exact upd_same
  · rw [upd_ne hap]; exact upd_same
theorem m_Store___check {C_Store : Addr} {C_Refused : Addr} (T : Txt K mg C_Store C_Refused) : MetX P w K mg base 3 C_Store "_check" (spStCheck C_Refused C_Store) := by
  have i_Refused := i_Refused (P := P) (w := w) (base := base) T
  refine metX T.cl_Store T.me_Store___check sc_Store___check (fun vs H Q E h => ?_) (fun f cdv A outer s H vs Q E hr h => ?_)
  · obtain ⟨p, n, a, ks, k, rfl, _⟩ := h; rfl
  obtain ⟨p, n, a, ks, k, rfl, st, hE, q⟩ := h
  obtain ⟨dx, g⟩ := st.ins
  refine ⟨_, (pss_one (ps_if (pt_cmp (pc_dnotin (by exact hu_of hr) (pv 1) (pe_fld (pv 0) rfl))) (pss_one (ps_raise rfl (takes_of rfl rfl rfl rfl) (pmk_ei i_Refused hr (by decide) (by rfl) (pa_cons pe_str pa_nil)))) pss_nil)), ?_⟩
  walk_at "rds"
  refine ⟨p, _, dx, _, _, rfl, g, T.cl_Store, T.na_Store__owners, rfl, ?_⟩
  refine ⟨n, _, rfl, DGet.k (k := Sum.inr k) st.ow, ?_⟩
  rw [ow_val]
  cases gk : gA ks k with
  | none =>
    walk_at "rds"
    exact mk_one fun H' d s1 _ hd => hE gk H' d s1 hd
  | some x =>
    walk_at "rds"
    exact q x gk
theorem m_Store___check_owner {C_Store : Addr} {C_Refused : Addr} (T : Txt K mg C_Store C_Refused) : MetX P w K mg base 3 C_Store "_check_owner" (spStOwner C_Refused C_Store) := by
  have i_Refused := i_Refused (P := P) (w := w) (base := base) T
  refine metX T.cl_Store T.me_Store___check_owner sc_Store___check_owner (fun vs H Q E h => ?_) (fun f cdv A outer s H vs Q E hr h => ?_)
  · obtain ⟨p, n, a, ks, c, k, x, rfl, _⟩ := h; rfl
  obtain ⟨p, n, a, ks, c, k, x, rfl, st, gk, hE, q⟩ := h
  obtain ⟨dx, g⟩ := st.ins
  refine ⟨_, (pss_one (ps_if (pt_cmpR op_ne (pe_dget (by exact hu_of hr) (pe_fld (pv 0) rfl) (pv 2) (fun _ _ => rfl)) (pv 1) (nomark _)) (pss_one (ps_raise rfl (takes_of rfl rfl rfl rfl) (pmk_ei i_Refused hr (by decide) (by rfl) (pa_cons pe_str pa_nil)))) pss_nil)), ?_⟩
  walk_at "rds"
  refine ⟨p, _, dx, _, _, rfl, g, T.cl_Store, T.na_Store__owners, rfl, ?_⟩
  walk_at "rds"
  refine ⟨n, _, rfl, .inl ⟨_, Sum.inr k, .inl st.ow, rfl, by rw [ow_val, gk]; rfl⟩, ?_⟩
  walk_at "rds"
  rw [decV']
  by_cases h : x.1 = c
  · refine ifF (by rw [decide_eq_true h]; rfl) ?_
    walk_at "rds"
    exact q h
  · refine ifT (by rw [decide_eq_false h]; rfl) ?_
    walk_at "rds"
    exact mk_one fun H' d s1 _ hd => hE h H' d s1 hd
/-- both dicts are written -/
theorem StAt.put {C : Addr} {H : Hp} {p n a : Addr} {ks : ST} (st : StAt C H p n a ks) (k : Str) (x : Int × Str) : StAt C (upd (upd H n (.dK (owD (pA ks k x)))) a (.dK (vaD (pA ks k x)))) p n a (pA ks k x) ∧ But2 n a H (upd (upd H n (.dK (owD (pA ks k x)))) a (.dK (vaD (pA ks k x)))) := by
  obtain ⟨dx, g⟩ := st.ins
  have hnp : p ≠ n := ne_of g st.ow (by intro z; cases z)
  have hap : p ≠ a := ne_of g st.va (by intro z; cases z)
  exact ⟨⟨⟨dx, by rw [upd_ne hap, upd_ne hnp]; exact g⟩, by rw [upd_ne st.ne]; exact upd_same, upd_same, st.ne⟩, fun b o n1 n2 e => by rw [upd_ne n2, upd_ne n1]; exact e⟩
theorem StAt.rem {C : Addr} {H : Hp} {p n a : Addr} {ks : ST} (st : StAt C H p n a ks) (k : Str) : StAt C (upd (upd H n (.dK (owD (rmA ks k)))) a (.dK (vaD (rmA ks k)))) p n a (rmA ks k) ∧ But2 n a H (upd (upd H n (.dK (owD (rmA ks k)))) a (.dK (vaD (rmA ks k)))) := by
  obtain ⟨dx, g⟩ := st.ins
  have hnp : p ≠ n := ne_of g st.ow (by intro z; cases z)
  have hap : p ≠ a := ne_of g st.va (by intro z; cases z)
  exact ⟨⟨⟨dx, by rw [upd_ne hap, upd_ne hnp]; exact g⟩, by rw [upd_ne st.ne]; exact upd_same, upd_same, st.ne⟩, fun b o n1 n2 e => by rw [upd_ne n2, upd_ne n1]; exact e⟩
theorem ow_put (ks : ST) (k : Str) (c : Int) (v : Str) : putK (owD ks) (Sum.inr k) (V.int c) = owD (pA ks k (c, v)) := by unfold owD; rw [← pA_kvs inrI]
theorem va_put (ks : ST) (k : Str) (c : Int) (v : Str) : putK (vaD ks) (Sum.inr k) (V.str v) = vaD (pA ks k (c, v)) := by unfold vaD; rw [← pA_kvs inrI]
theorem ow_same {ks : ST} {k : Str} {x : Int × Str} (h : kOk ks) (g : gA ks k = some x) (v : Str) : owD (pA ks k (x.1, v)) = owD ks := by
  have m : k ∈ ks.map (·.1) := List.mem_map.mpr ⟨_, gA_some g, rfl⟩
  unfold pA owD kvs
  rw [if_pos (any_mem.mpr m), List.map_map]
  refine List.map_congr_left fun y my => ?_
  show (Sum.inr (if y.1 = k then (y.1, (x.1, v)) else y).1, V.int (if y.1 = k then (y.1, (x.1, v)) else y).2.1) = ((Sum.inr y.1 : Key), V.int y.2.1)
  by_cases e : y.1 = k
  · have := gA_mem h my
    rw [e, g] at this
    rw [if_pos e, ← Option.some.inj this]
  · rw [if_neg e]
theorem m_Store__put {C_Store : Addr} {C_Refused : Addr} (T : Txt K mg C_Store C_Refused) : MetX P w K mg base 5 C_Store "put" (spStPut C_Refused C_Store) := by
  have i_Refused := i_Refused (P := P) (w := w) (base := base) T
  have m_Store___check_owner := m_Store___check_owner (P := P) (w := w) (base := base) T
  refine metX T.cl_Store T.me_Store__put sc_Store__put (fun vs H Q E h => ?_) (fun f cdv A outer s H vs Q E hr h => ?_)
  · obtain ⟨p, n, a, ks, c, k, v, rfl, _⟩ := h; rfl
  obtain ⟨p, n, a, ks, c, k, v, rfl, st, l, out⟩ := h
  obtain ⟨dx, g⟩ := st.ins
  have hnp : p ≠ n := ne_of g st.ow (by intro z; cases z)
  refine ⟨_, (pss_cut (ps_if (pt_cmp (pc_din (by exact hu_of hr) (pv 2) (pe_fld (pv 0) rfl))) (pss_one (ps_expr (pe_mtX m_Store___check_owner hr (by decide) (fun σ => passAt (takes_of rfl rfl rfl rfl) σ) (pv 0) (pa_cons (pv 1) (pa_cons (pv 2) pa_nil))))) (pss_one (ps_if (pt_cmpR op_ge (pe_callB call_lenD (by rfl) T.z_len (by decide +kernel) (pa_cons (pe_fld (pv 0) rfl) pa_nil)) (pe_gc (by rfl) T.c_ENTRY_LIMIT) (nomark _)) (pss_one (ps_raise rfl (takes_of rfl rfl rfl rfl) (pmk_ei i_Refused hr (by decide) (by rfl) (pa_cons pe_str pa_nil)))) pss_nil)))
      (pss_cons (ps_dput (hu_of hr) (pe_fld (pv 0) rfl) (pv 2) (pv 1) rfl)
      (pss_one (ps_dput (hu_of hr) (pe_fld (pv 0) rfl) (pv 2) (pv 3) rfl)))), ?_⟩
  refine ⟨fun σ' H' => H' = H ∧ σ' = [some (.ref p), some (.int c), some (.str k), some (.str v)] ∧ stPut ks c k v = .inr (pA ks k (c, v)), ?_, ?_⟩
  · walk_at "rds"
    refine ⟨p, _, dx, _, _, rfl, g, T.cl_Store, T.na_Store__owners, rfl, ?_⟩
    refine ⟨n, _, rfl, DGet.k (k := Sum.inr k) st.ow, ?_⟩
    rw [ow_val]
    cases gk : gA ks k with
    | none =>
      walk_at "rds"
      refine ⟨p, _, dx, _, _, rfl, g, T.cl_Store, T.na_Store__owners, rfl, ?_⟩
      walk_at "rds"
      refine ⟨n, _, rfl, st.ow, ?_⟩
      walk_at "rds"
      have el : (owD ks).length = ks.length := kvs_len _ _ _
      rw [el]
      by_cases h : 200 ≤ ks.length
      · have e : stPut ks c k v = .inl "full" := by unfold stPut; rw [gk]; exact if_pos h
        rw [e] at out
        refine ifT (decide_eq_true (by omega)) ?_
        walk_at "rds"
        exact mk_one fun H' d s1 _ hd => out H' d s1 hd
      · have e : stPut ks c k v = .inr (pA ks k (c, v)) := by unfold stPut; rw [gk]; exact if_neg h
        refine ifF (decide_eq_false (by omega)) ?_
        exact ⟨rfl, rfl, e⟩
    | some x =>
      walk_at "rds"
      refine ⟨p, dx, _, rfl, g, rfl, ?_⟩
      walk_at "rds"
      refine ⟨p, n, a, ks, c, k, x, rfl, st, gk, fun h => ?_, fun h => ?_⟩
      · have e : stPut ks c k v = .inl "owner" := by unfold stPut; rw [gk]; exact if_pos h
        rw [e] at out
        exact out
      · have e : stPut ks c k v = .inr (pA ks k (c, v)) := by unfold stPut; rw [gk]; exact if_neg (fun n => n h)
        exact ⟨rfl, rfl, e⟩
  · rintro σ' H' ⟨rfl, rfl, e⟩
    rw [e] at out
    walk_at "rds"
    refine ⟨p, _, dx, _, _, rfl, g, T.cl_Store, T.na_Store__owners, rfl, ?_⟩
    walk_at "rds"
    refine ⟨n, _, rfl, DPut.k (k := Sum.inr k) st.ow (by unfold owD; rw [kvs_len]; exact sz1000' (by omega)), ?_⟩
    rw [ow_put ks k c v]
    walk_at "rds"
    refine ⟨p, _, dx, _, _, rfl, (by rw [upd_ne hnp]; exact g), T.cl_Store, T.na_Store__values, rfl, ?_⟩
    walk_at "rds"
    refine ⟨a, _, rfl, DPut.k (k := Sum.inr k) (by rw [upd_ne st.ne.symm]; exact st.va) (by unfold vaD; rw [kvs_len]; exact sz1000' (by omega)), ?_⟩
    rw [va_put ks k c v]
    obtain ⟨st2, bt⟩ := st.put k (c, v)
    exact out _ bt st2
theorem m_Store__read {C_Store : Addr} {C_Refused : Addr} (T : Txt K mg C_Store C_Refused) : MetX P w K mg base 4 C_Store "read" (spStRead C_Refused C_Store) := by
  have m_Store___check := m_Store___check (P := P) (w := w) (base := base) T
  refine metX T.cl_Store T.me_Store__read sc_Store__read (fun vs H Q E h => ?_) (fun f cdv A outer s H vs Q E hr h => ?_)
  · obtain ⟨p, n, a, ks, k, rfl, _⟩ := h; rfl
  obtain ⟨p, n, a, ks, k, rfl, st, out⟩ := h
  obtain ⟨dx, g⟩ := st.ins
  refine ⟨_, (pss_cons (ps_expr (pe_mtX m_Store___check hr (by decide) (fun σ => passAt (takes_of rfl rfl rfl rfl) σ) (pv 0) (pa_cons (pv 1) pa_nil)))
      (pss_one (ps_ret (pe_dget (by exact hu_of hr) (pe_fld (pv 0) rfl) (pv 1) (fun _ _ => rfl))))), ?_⟩
  walk_at "rds"
  refine ⟨p, dx, _, rfl, g, rfl, ?_⟩
  walk_at "rds"
  refine ⟨p, n, a, ks, k, rfl, st, fun gk => ?_, fun x gk => ?_⟩
  · have e : stRead ks k = .inl "missing" := by unfold stRead; rw [gk]
    rw [e] at out; exact out
  · have e : stRead ks k = .inr x.2 := by unfold stRead; rw [gk]
    rw [e] at out
    walk_at "rds"
    refine ⟨p, _, dx, _, _, rfl, g, T.cl_Store, T.na_Store__values, rfl, ?_⟩
    walk_at "rds"
    refine ⟨a, _, rfl, .inl ⟨_, Sum.inr k, .inl st.va, rfl, by rw [va_val, gk]; rfl⟩, ?_⟩
    exact out
theorem m_Store__drop {C_Store : Addr} {C_Refused : Addr} (T : Txt K mg C_Store C_Refused) : MetX P w K mg base 4 C_Store "drop" (spStDrop C_Refused C_Store) := by
  have m_Store___check := m_Store___check (P := P) (w := w) (base := base) T
  have m_Store___check_owner := m_Store___check_owner (P := P) (w := w) (base := base) T
  refine metX T.cl_Store T.me_Store__drop sc_Store__drop (fun vs H Q E h => ?_) (fun f cdv A outer s H vs Q E hr h => ?_)
  · obtain ⟨p, n, a, ks, c, k, rfl, _⟩ := h; rfl
  obtain ⟨p, n, a, ks, c, k, rfl, st, out⟩ := h
  obtain ⟨dx, g⟩ := st.ins
  have hnp : p ≠ n := ne_of g st.ow (by intro z; cases z)
  refine ⟨_, (pss_cons (ps_expr (pe_mtX m_Store___check hr (by decide) (fun σ => passAt (takes_of rfl rfl rfl rfl) σ) (pv 0) (pa_cons (pv 2) pa_nil)))
      (pss_cons (ps_expr (pe_mtX m_Store___check_owner hr (by decide) (fun σ => passAt (takes_of rfl rfl rfl rfl) σ) (pv 0) (pa_cons (pv 1) (pa_cons (pv 2) pa_nil))))
      (pss_cons (ps_ddel (pe_fld (pv 0) rfl) (pv 2))
      (pss_one (ps_ddel (pe_fld (pv 0) rfl) (pv 2)))))), ?_⟩
  walk_at "rds"
  refine ⟨p, dx, _, rfl, g, rfl, ?_⟩
  walk_at "rds"
  refine ⟨p, n, a, ks, k, rfl, st, fun gk => ?_, fun x gk => ?_⟩
  · have e : stDrop ks c k = .inl "missing" := by unfold stDrop; rw [gk]
    rw [e] at out; exact out
  walk_at "rds"
  refine ⟨p, dx, _, rfl, g, rfl, ?_⟩
  walk_at "rds"
  refine ⟨p, n, a, ks, c, k, x, rfl, st, gk, fun h => ?_, fun h => ?_⟩
  · have e : stDrop ks c k = .inl "owner" := by unfold stDrop; rw [gk]; exact if_pos h
    rw [e] at out; exact out
  have e : stDrop ks c k = .inr (rmA ks k) := by unfold stDrop; rw [gk]; exact if_neg (fun n => n h)
  rw [e] at out
  walk_at "rds"
  refine ⟨p, _, dx, _, _, rfl, g, T.cl_Store, T.na_Store__owners, rfl, ?_⟩
  walk_at "rds"
  refine ⟨n, _, Sum.inr k, rfl, st.ow, rfl, by rw [ow_val, gk]; rfl, ?_⟩
  rw [show dropK (owD ks) (Sum.inr k) = owD (rmA ks k) from dropK_rmA inrI _ ks k]
  walk_at "rds"
  refine ⟨p, _, dx, _, _, rfl, (by rw [upd_ne hnp]; exact g), T.cl_Store, T.na_Store__values, rfl, ?_⟩
  walk_at "rds"
  refine ⟨a, _, Sum.inr k, rfl, (by rw [upd_ne st.ne.symm]; exact st.va), rfl, by rw [va_val, gk]; rfl, ?_⟩
  rw [show dropK (vaD ks) (Sum.inr k) = vaD (rmA ks k) from dropK_rmA inrI _ ks k]
  obtain ⟨st2, bt⟩ := st.rem k
  exact out _ bt st2
theorem m_Store__swap {C_Store : Addr} {C_Refused : Addr} (T : Txt K mg C_Store C_Refused) : MetX P w K mg base 5 C_Store "swap" (spStSwap C_Refused C_Store) := by
  have i_Refused := i_Refused (P := P) (w := w) (base := base) T
  have m_Store__read := m_Store__read (P := P) (w := w) (base := base) T
  refine metX T.cl_Store T.me_Store__swap sc_Store__swap (fun vs H Q E h => ?_) (fun f cdv A outer s H vs Q E hr h => ?_)
  · obtain ⟨p, n, a, ks, k, o, v, rfl, _⟩ := h; rfl
  obtain ⟨p, n, a, ks, k, o, v, rfl, st, hok, l, out⟩ := h
  obtain ⟨dx, g⟩ := st.ins
  refine ⟨_, (pss_cons (ps_if (pt_cmpR op_ne (pe_mtX m_Store__read hr (by decide) (fun σ => passAt (takes_of rfl rfl rfl rfl) σ) (pv 0) (pa_cons (pv 1) pa_nil)) (pv 2) (nomark _)) (pss_one (ps_raise rfl (takes_of rfl rfl rfl rfl) (pmk_ei i_Refused hr (by decide) (by rfl) (pa_cons pe_str pa_nil)))) pss_nil)
      (pss_one (ps_dput (hu_of hr) (pe_fld (pv 0) rfl) (pv 1) (pv 3) rfl))), ?_⟩
  walk_at "rds"
  refine ⟨p, dx, _, rfl, g, rfl, ?_⟩
  walk_at "rds"
  refine ⟨p, n, a, ks, k, rfl, st, ?_⟩
  cases gk : gA ks k with
  | none =>
    have e : stSwap ks k o v = .inl "missing" := by unfold stSwap; rw [gk]
    have e1 : stRead ks k = .inl "missing" := by unfold stRead; rw [gk]
    rw [e] at out
    rw [e1]
    exact out
  | some x =>
    have e1 : stRead ks k = .inr x.2 := by unfold stRead; rw [gk]
    rw [e1]
    walk_at "rds"
    by_cases h : x.2 = o
    · have e : stSwap ks k o v = .inr (pA ks k (x.1, v)) := by unfold stSwap; rw [gk]; exact if_neg (fun n => n h)
      rw [e] at out
      refine ifF (by rw [h, decide_eq_true rfl]; rfl) ?_
      walk_at "rds"
      refine ⟨p, _, dx, _, _, rfl, g, T.cl_Store, T.na_Store__values, rfl, ?_⟩
      walk_at "rds"
      refine ⟨a, _, rfl, DPut.k (k := Sum.inr k) st.va (by unfold vaD; rw [kvs_len]; exact sz1000' (by omega)), ?_⟩
      rw [va_put ks k x.1 v]
      refine out _ (fun b o n1 n2 e => by rw [upd_ne n2]; exact e) ⟨⟨dx, by rw [upd_ne (ne_of g st.va (by intro z; cases z))]; exact g⟩, ?_, upd_same, st.ne⟩
      rw [upd_ne st.ne, ow_same hok gk v]
      exact st.ow
    · have e : stSwap ks k o v = .inl "need" := by unfold stSwap; rw [gk]; exact if_pos h
      rw [e] at out
      refine ifT (by rw [decide_eq_false (fun z => h (V.str.inj z))]; rfl) ?_
      walk_at "rds"
      exact mk_one fun H' d s1 _ hd => out H' d s1 hd
theorem m_Store__clone {C_Store : Addr} {C_Refused : Addr} (T : Txt K mg C_Store C_Refused) : Met P w K mg base 3 C_Store "clone" (spStClone C_Store) [] := by
  have k_Store := k_Store (P := P) (w := w) (base := base) T
  refine met T.cl_Store T.me_Store__clone sc_Store__clone (fun vs H Q E h => ?_) (fun f cdv A outer s H vs Q E hr h => ?_)
  · obtain ⟨p, n, a, ks, rfl, _⟩ := h; rfl
  obtain ⟨p, n, a, ks, rfl, se, q⟩ := h
  refine ⟨_, (pss_cons (ps_set (i := 1) sc_Store__clone.nd rfl (Or.inl rfl) (pe_mk0 k_Store hr (by decide) (by rfl)))
      (pss_cons (ps_fld (pv 1) (pe_callTy call_dictD (by rfl) T.z_dict (by decide +kernel) (pa_cons (pe_fld (pv 0) rfl) pa_nil)) rfl)
      (pss_cons (ps_fld (pv 1) (pe_callTy call_dictD (by rfl) T.z_dict (by decide +kernel) (pa_cons (pe_fld (pv 0) rfl) pa_nil)) rfl)
      (pss_one (ps_ret (pv 1)))))), ?_⟩
  walk_at "rds"
  intro p2 dx2 hp2 hdx2 hne2
  refine ⟨p2, dx2, rfl, upd_same, fun H1 n2 a2 kp hn2 ha2 se2 => ⟨rfl, ?_⟩⟩
  have s1 : Same H H1 := Same.made hp2 hdx2 kp
  have sM : Same H (upd (upd H dx2 (.own p2)) p2 (.ins C_Store dx2 [])) := (same_upd hdx2).trans (same_upd (by rw [upd_ne hne2.symm]; exact hp2))
  have hn0 := same_none sM hn2
  have ha0 := same_none sM ha2
  obtain ⟨⟨dx3, g2⟩, hn2', ha2', _⟩ := id se2
  obtain ⟨⟨dx, g⟩, hn, ha, hna⟩ := se.on s1
  walk_at "rds"
  refine ⟨p, _, dx, _, _, rfl, g, T.cl_Store, T.na_Store__owners, rfl, ?_⟩
  walk_at "rds"
  refine ⟨n, _, rfl, .inl hn, fun n3 hn3 => ?_⟩
  walk_at "rds"
  refine ⟨p2, _, dx3, _, rfl, (same_upd hn3) _ _ g2, T.cl_Store, T.na_Store__owners, (by show 2 < 1000; decide), ?_⟩
  have s2 : Same H (upd (upd H1 n3 (.dK (owD ks))) p2 (.ins C_Store dx3 (putF "_owners" (.ref n3) (stF n2 a2)))) := same_mut (s1.trans (same_upd hn3)) hp2
  have hp2n : p2 ≠ n3 := ne_of_none g2 hn3
  obtain ⟨⟨dx4, g4⟩, hn4, ha4, _⟩ := se.on s2
  have hn34 : (upd (upd H1 n3 (.dK (owD ks))) p2 (.ins C_Store dx3 (putF "_owners" (.ref n3) (stF n2 a2)))) n3 = some (.dK (owD ks)) := by rw [upd_ne hp2n.symm]; exact upd_same
  have hp24 : (upd (upd H1 n3 (.dK (owD ks))) p2 (.ins C_Store dx3 (putF "_owners" (.ref n3) (stF n2 a2)))) p2 = some (.ins C_Store dx3 (putF "_owners" (.ref n3) (stF n2 a2))) := upd_same
  generalize upd (upd H1 n3 (.dK (owD ks))) p2 (.ins C_Store dx3 (putF "_owners" (.ref n3) (stF n2 a2))) = H2 at s2 g4 hn4 ha4 hn34 hp24
  walk_at "rds"
  refine ⟨p, _, dx4, _, _, rfl, g4, T.cl_Store, T.na_Store__values, rfl, ?_⟩
  walk_at "rds"
  refine ⟨a, _, rfl, .inl ha4, fun a3 ha3 => ?_⟩
  walk_at "rds"
  refine ⟨p2, _, dx3, _, rfl, (same_upd ha3) _ _ hp24, T.cl_Store, T.na_Store__values, (by show 2 < 1000; decide), ?_⟩
  have hp2a : p2 ≠ a3 := ne_of_none hp24 ha3
  have hn3a : n3 ≠ a3 := ne_of_none hn34 ha3
  walk_at "rds"
  refine q _ p2 n3 a3 (same_mut (s2.trans (same_upd ha3)) hp2) hp2 (same_none s1 hn3) (same_none s2 ha3) ⟨⟨dx3, upd_same⟩, ?_, ?_, hn3a⟩
  · rw [upd_ne hp2n.symm, upd_ne hn3a]; exact hn34
  · rw [upd_ne hp2a.symm]; exact upd_same
theorem srow_some {ks : ST} {k : Str} {x : Int × Str} (g : gA ks k = some x) : srowD ks k = .tuple [.str k, .int x.1, .str x.2] := by unfold srowD; rw [g]
theorem srow_noL {ks : ST} (k : Str) : noL (srowD ks k) = true := by
  unfold srowD
  cases gA ks k with
  | none => rfl
  | some x => rfl
theorem sortK_get {ks : ST} (hok : kOk ks) {k : Str} (m : k ∈ sortK ks) : ∃ x, gA ks k = some x ∧ (k, x) ∈ ks := by
  obtain ⟨y, my, rfl⟩ := List.mem_map.mp (sortK_mem.mp m)
  exact ⟨y.2, gA_mem hok my, my⟩
theorem m_Store__rows {C_Store : Addr} {C_Refused : Addr} (T : Txt K mg C_Store C_Refused) : Met P w K mg base 1 C_Store "rows" (spStRows K C_Store) [] := by
  refine met T.cl_Store T.me_Store__rows sc_Store__rows (fun vs H Q E h => ?_) (fun f cdv A outer s H vs Q E hr h => ?_)
  · obtain ⟨p, n, a, ks, rfl, _⟩ := h; rfl
  obtain ⟨p, n, a, ks, rfl, se, l1000, hok, hz, q⟩ := h
  obtain ⟨dx, g⟩ := se.ins
  refine ⟨_, (pss_one (ps_ret (pe_lc (own := [("key", 1)]) (g := gName 1) (by rfl) sc_Store__rows.nd (pi_list (pe_callB (call_sortedDS rfl (units65 hr)) (by rfl) T.z_sorted (by decide +kernel) (pa_cons (pe_fld (pv 0) rfl) pa_nil))) (blkOk_by (own := [("key", 1)]) (N := ["self", "key"]) (sc := defScope s_Store__rows) (by decide +kernel)) (fun _ _ _ _ _ => pg_name (i := 1) sc_Store__rows.nd rfl (Or.inl rfl)) (fun _ _ _ _ _ => pts_nil) (fun _ _ _ _ _ => (pe_tup (pa_cons (pv 1) (pa_cons (pe_dget (by exact hu_of hr) (kfld (K := K) (pv 0)) (pv 1) (fun _ _ => rfl)) (pa_cons (pe_dget (by exact hu_of hr) (kfld (K := K) (pv 0)) (pv 1) (fun _ _ => rfl)) pa_nil)))))))), ?_⟩
  walk_at "rds"
  refine ⟨p, _, dx, _, _, rfl, g, T.cl_Store, T.na_Store__owners, rfl, ?_⟩
  walk_at "rds"
  refine ⟨n, _, ks.map (fun k => k.1), rfl, .inl se.ow, (by exact kvs_keys), by rw [List.length_map]; omega, fun l hl => ?_⟩
  walk_at "rds"
  have s1 : Same H (upd H l (.lst ((sortK ks).map V.str))) := same_upd hl
  have hl1 : upd H l (.lst ((sortK ks).map V.str)) l = some (.lst ((sortK ks).map V.str)) := upd_same
  have e1 : upd H l (.lst ((sortS (ks.map fun k => k.1)).map V.str)) = upd H l (.lst ((sortK ks).map V.str)) := rfl
  rw [e1]
  generalize upd H l (.lst ((sortK ks).map V.str)) = H1 at s1 hl1
  refine ⟨⟨_, sq hl1⟩, fun D hD => ?_⟩
  refine lc_it (walk_list (K := K) (a := l) (xs := (sortK ks).map V.str)) (Pv := fun i H' => ∃ xs, Same H1 H' ∧ H' D = some (.lst xs) ∧ DtAll K H' none xs (((sortK ks).take i).map (srowD ks))) ⟨[], same_upd hD, upd_same, .nil⟩ (fun _ _ _ h => by obtain ⟨_, h, _⟩ := h; exact sq (h _ _ hl1)) (fun i x H6 H7 hi hp2 hy => ?_) (fun H6 hp2 => ?_)
  · obtain ⟨xs, s6, hD6, hx6⟩ := hp2
    obtain ⟨rfl, gx⟩ := hy
    rw [List.length_map] at hi
    rw [List.getElem?_map, List.getElem?_eq_getElem hi] at gx
    obtain rfl : V.str (sortK ks)[i] = x := Option.some.inj gx
    obtain ⟨x, gk, mk⟩ := sortK_get hok (List.getElem_mem hi)
    have ht : (sortK ks).take (i + 1) = (sortK ks).take i ++ [(sortK ks)[i]] := by rw [List.take_add_one, List.getElem?_eq_getElem hi]; rfl
    have li : i < 1000 := by rw [sortK_len] at hi; omega
    obtain ⟨⟨dx6, g6⟩, hn6, ha6, _⟩ := se.on (s1.trans s6)
    rw [ht, List.map_append]
    generalize (sortK ks)[i] = c at gk mk
    have e3 := srow_some gk
    have hc := hz _ mk
    refine ⟨rfl, tyes ?_⟩
    walk_at "rds"
    refine ⟨p, _, dx6, _, _, rfl, g6, T.cl_Store, T.na_Store__owners, rfl, ?_⟩
    walk_at "rds"
    refine ⟨n, _, rfl, .inl ⟨_, Sum.inr c, .inl hn6, rfl, by rw [ow_val, gk]; rfl⟩, ?_⟩
    walk_at "rds"
    refine ⟨p, _, dx6, _, _, rfl, g6, T.cl_Store, T.na_Store__values, rfl, ?_⟩
    walk_at "rds"
    refine ⟨a, _, rfl, .inl ⟨_, Sum.inr c, .inl ha6, rfl, by rw [va_val, gk]; rfl⟩, ?_⟩
    walk_at "rds"
    intro t htn
    have hD7 := (same_upd (o := .tup [.str c, .int x.1, .str x.2]) htn) _ _ hD6
    have hxl : xs.length ≤ i := by rw [hx6.length, List.length_map, List.length_take]; omega
    refine ⟨xs, hD7, sz1000' (by omega), xs ++ [.ref t], same_mut (s6.trans (same_upd htn)) hD, upd_same, ?_⟩
    have hdt : Dt K (upd H7 t (.tup [.str c, .int x.1, .str x.2])) none (.ref t) (srowD ks c) := by
      rw [e3]
      exact .tup (.inl upd_same) (.cons (.str _ (by have := hc.1; show c.length ≤ 1000000; exact Nat.le_trans this (by decide))) (.cons (.int _) (.cons (.str _ (by have := hc.2.1; exact Nat.le_trans this (by decide))) .nil)))
    refine DtAll.keep (tp_put hD7) _ _ (noLs_all fun d hd => ?_) ((hx6.on (same_upd htn)).snoc hdt)
    rcases List.mem_append.mp hd with hd | hd
    · obtain ⟨z, _, rfl⟩ := List.mem_map.mp hd; exact srow_noL z
    · rw [List.mem_singleton.mp hd]; exact srow_noL c
  · obtain ⟨xs, s6, hD6, hx6⟩ := hp2
    rw [List.length_map, List.take_of_length_le (Nat.le_refl _)] at hx6
    exact q xs H6 D (s1.trans s6) (same_none s1 hD) hD6 hx6
theorem m_Store__matching {C_Store : Addr} {C_Refused : Addr} (T : Txt K mg C_Store C_Refused) : Met P w K mg base 1 C_Store "matching" (spStMatch C_Store) [] := by
  refine met T.cl_Store T.me_Store__matching sc_Store__matching (fun vs H Q E h => ?_) (fun f cdv A outer s H vs Q E hr h => ?_)
  · obtain ⟨p, n, a, ks, z, rfl, _⟩ := h; rfl
  obtain ⟨p, n, a, ks, z, rfl, se, l1000, q⟩ := h
  obtain ⟨dx, g⟩ := se.ins
  refine ⟨_, (pss_one (ps_ret (pe_lc (own := [("key", 2)]) (g := gName 2) (by rfl) sc_Store__matching.nd (pi_list (pe_callB (call_sortedDS rfl (units65 hr)) (by rfl) T.z_sorted (by decide +kernel) (pa_cons (pe_fld (pv 0) rfl) pa_nil))) (blkOk_by (own := [("key", 2)]) (N := ["self", "prefix", "key"]) (sc := defScope s_Store__matching) (by decide +kernel)) (fun _ _ _ _ _ => pg_name (i := 2) sc_Store__matching.nd rfl (Or.inl rfl)) (fun _ _ _ _ _ => pts_one (pt_val (kbm (K := K) PySem.F.plainAttrs_str PySem.F.slot_str_startswith PySem.F.type_str_startswith mt_startswith (pv 2) (pa_cons (pv 1) pa_nil)))) (fun _ _ _ _ _ => (pv 2))))), ?_⟩
  walk_at "rds"
  refine ⟨p, _, dx, _, _, rfl, g, T.cl_Store, T.na_Store__owners, rfl, ?_⟩
  walk_at "rds"
  refine ⟨n, _, ks.map (fun k => k.1), rfl, .inl se.ow, (by exact kvs_keys), by rw [List.length_map]; omega, fun l hl => ?_⟩
  walk_at "rds"
  have s1 : Same H (upd H l (.lst ((sortK ks).map V.str))) := same_upd hl
  have hl1 : upd H l (.lst ((sortK ks).map V.str)) l = some (.lst ((sortK ks).map V.str)) := upd_same
  have e1 : upd H l (.lst ((sortS (ks.map fun k => k.1)).map V.str)) = upd H l (.lst ((sortK ks).map V.str)) := rfl
  rw [e1]
  generalize upd H l (.lst ((sortK ks).map V.str)) = H1 at s1 hl1
  refine ⟨⟨_, sq hl1⟩, fun D hD => ?_⟩
  have lK := sortK_len ks
  generalize sortK ks = ys at lK hl1 q
  refine lc_it (walk_list (K := K) (a := l) (xs := ys.map V.str)) (Pv := fun i H' => Same H1 H' ∧ H' D = some (.lst (((ys.take i).filter fun k => Txt.startswith k z).map V.str))) ⟨same_upd hD, upd_same⟩ (fun _ _ _ h => sq (h.1 _ _ hl1)) (fun i x H6 H7 hi hp2 hy => ?_) (fun H6 hp2 => ?_)
  · obtain ⟨s6, hD6⟩ := hp2
    obtain ⟨rfl, gx⟩ := hy
    rw [List.length_map] at hi
    rw [List.getElem?_map, List.getElem?_eq_getElem hi] at gx
    obtain rfl : V.str ys[i] = x := Option.some.inj gx
    have ll : ((ys.take i).filter fun k => Txt.startswith k z).length ≤ 1000 := by
      refine Nat.le_trans (List.length_filter_le _ _) ?_
      rw [List.length_take]; omega
    have tk2 : ((ys.take (i + 1)).filter fun k => Txt.startswith k z) = ((ys.take i).filter fun k => Txt.startswith k z) ++ (if Txt.startswith ys[i] z = true then [ys[i]] else []) := by
      rw [List.take_add_one, List.getElem?_eq_getElem hi, List.filter_append]
      congr 1
      show List.filter _ [_] = _
      rw [List.filter_cons, List.filter_nil]
    generalize (ys.take i).filter (fun k => Txt.startswith k z) = acc at hD6 tk2 ll
    generalize ys[i] = c at tk2
    refine ⟨rfl, ?_⟩
    walk_at "rds"
    refine ⟨rfl, ?_⟩
    walk_at "rds"
    refine ⟨c, z, rfl, rfl, ?_⟩
    refine ⟨_, rfl, ?_⟩
    cases hb : Txt.startswith c z with
    | true =>
      rw [hb, if_pos rfl] at tk2
      refine ifT rfl ?_
      walk_at "rds"
      exact ⟨_, hD6, sz1000' (by rw [List.length_map]; omega), same_mut s6 hD, by rw [upd_same, tk2, List.map_append]; rfl⟩
    | false =>
      rw [hb, if_neg (by decide), List.append_nil] at tk2
      refine ifF rfl ?_
      exact ⟨s6, by rw [tk2]; exact hD6⟩
  · obtain ⟨s6, hD6⟩ := hp2
    rw [List.length_map, List.take_of_length_le (Nat.le_refl _)] at hD6
    exact q H6 D (s1.trans s6) (same_none s1 hD) hD6
end

/-! ### the law's functions -/
def spWord : Sp := fun vs H Q _ => ∃ (n : Nat) (ch : Str) (seed step : Int), vs = [.int n, .str ch, .int seed, .int step] ∧ n ≤ 100 ∧ 0 < ch.length ∧ ch.length ≤ 1000 ∧ ∀ z : Str, z.length = n → (∀ c ∈ z.cps.toList, c ∈ ch.cps.toList) → Q (.str z) H
/-- a text as the law draws it -/
def Tx (z : Str) : Prop := z.length ≤ 1000 ∧ PyData.strOk z = true
def spTxt : Sp := fun vs H Q _ => ∃ c : Int, vs = [.int c] ∧ ∀ H' z, Same H H' → Tx z → Q (.str z) H'
def spRich : Sp := fun vs H Q _ => ∃ (c k : Int), vs = [.int c, .int k] ∧ 0 ≤ k ∧ k ≤ 100 ∧ ∀ r : Int, Q (.int r) H
/-- an operation -/
structure Opn where
  verb : Str
  c : Int
  k : Str
  v : Str
  o : Str
structure OpOk (o : Opn) : Prop where
  verb : o.verb = "put" ∨ o.verb = "swap" ∨ o.verb = "drop" ∨ o.verb = "read"
  k : Tx o.k
  v : Tx o.v
  o : Tx o.o
def opV (o : Opn) : List V := [.str o.verb, .int o.c, .str o.k, .str o.v, .str o.o]
def spOp : Sp := fun vs H Q _ => ∃ (c k : Int), vs = [.int c, .int k] ∧ 0 ≤ k ∧ k ≤ 100 ∧ ∀ H' t o, Same H H' → H' t = some (.tup (opV o)) → OpOk o → Q (.ref t) H'
theorem strOk_mem {z : Str} (h : ∀ c ∈ z.cps.toList, c < 0x110000) : PyData.strOk z = true := by
  unfold PyData.strOk
  rw [← Array.all_toList, List.all_eq_true]
  exact fun c m => decide_eq_true (h c m)
section
variable {P : Program} {w : World} {K : PySem.W.Frag} {mg : Str → Option Value} {base : Heap}
theorem c__law_word {C_Store : Addr} {C_Refused : Addr} (T : Txt K mg C_Store C_Refused) : Cal P w K mg base 1 "_law_word" spWord [] := by
  refine cal T.d__law_word sc__law_word (fun vs H Q E h => ?_) (fun f cdv A' outer s H vs Q E hr h => ?_)
  · obtain ⟨n, ch, seed, step, rfl, _⟩ := h; rfl
  obtain ⟨n, ch, seed, step, rfl, hn, h0, h1, q⟩ := h
  refine ⟨_, (pss_cons (ps_set (i := 4) sc__law_word.nd rfl (Or.inl rfl) pe_str)
      (pss_cons (ps_set (i := 5) sc__law_word.nd rfl (Or.inl rfl) (pe_callTy call_int1 (by rfl) T.z_int (by decide +kernel) (pa_cons (pv 2) pa_nil)))
      (pss_cons (ps_for PassesOwn.never rfl (pi_range1 (by rfl) T.z_range (pa_cons (pv 0) pa_nil)) (pg_name (i := 6) sc__law_word.nd rfl (Or.inl rfl)) (pss_cons (ps_set (i := 4) sc__law_word.nd rfl (Or.inl rfl) (pe_op op_add_str (pv 4) (pe_ix ix_str (pv 1) (pe_op op_mod (pe_callTy call_int1 (by rfl) T.z_int (by decide +kernel) (pa_cons (pe_op op_add (pv 5) (pe_op op_mul (pv 6) (pv 3))) pa_nil)) (pe_callB call_len_str (by rfl) T.z_len (by decide +kernel) (pa_cons (pv 1) pa_nil))) (fun _ _ => rfl))))
      (pss_one (ps_set (i := 5) sc__law_word.nd rfl (Or.inl rfl) (pe_op op_fdiv (pv 5) (pe_callB call_len_str (by rfl) T.z_len (by decide +kernel) (pa_cons (pv 1) pa_nil)))))))
      (pss_one (ps_ret (pv 4)))))), ?_⟩
  walk_at "rds"
  refine for_it walk_range (Pv := fun i σ H' => H' = H ∧ ∃ (z : Str) (r : Int) (y : Option V), σ = [some (.int n), some (.str ch), some (.int seed), some (.int step), some (.str z), some (.int r), y] ∧ z.length = i ∧ ∀ c ∈ z.cps.toList, c ∈ ch.cps.toList) ⟨rfl, _, _, _, rfl, by decide, (fun c m => by cases m)⟩ (fun _ _ _ _ _ => trivial) (fun i x σ H1 H2 hi hp hy => ?_) (fun σ H1 hp => ?_)
  · obtain ⟨rfl, z, r, y, rfl, hz, hc⟩ := hp
    obtain ⟨rfl, rfl⟩ := hy
    have hi' : i < n := by omega
    walk_at "rds"
    obtain ⟨c, hcm, hat⟩ := atI_lt (xs := ch.cps.toList) (i := (r + (0 + (i : Int)) * step) % (ch.length : Int)) (Int.emod_nonneg _ (by omega)) (by rw [len_tl]; exact Int.emod_lt_of_pos _ (by omega))
    refine ⟨ch, _, c, rfl, rfl, sz1000 (by omega), hat, ?_⟩
    refine ⟨z, _, rfl, rfl, ?_, ?_⟩
    · exact sz1000 (by rw [hz]; show i + 1 ≤ 100000; omega)
    walk_at "rds"
    refine ⟨rfl, z ++ ⟨#[c]⟩, _, _, rfl, ?_, ?_⟩
    · rw [Str.length_append, hz]; rfl
    · intro d hd
      rw [app_tl] at hd
      rcases List.mem_append.mp hd with hd | hd
      · exact hc d hd
      · rw [List.mem_singleton.mp hd]; exact hcm
  · obtain ⟨rfl, z, r, y, rfl, hz, hc⟩ := hp
    walk_at "rds"
    exact q z (by omega) hc
theorem c__law_key {C_Store : Addr} {C_Refused : Addr} (T : Txt K mg C_Store C_Refused) : Cal P w K mg base 2 "_law_key" spTxt [] := by
  have c__law_word := c__law_word (P := P) (w := w) (base := base) T
  refine cal T.d__law_key sc__law_key (fun vs H Q E h => ?_) (fun f cdv A' outer s H vs Q E hr h => ?_)
  · obtain ⟨c, rfl, _⟩ := h; rfl
  obtain ⟨c, rfl, q⟩ := h
  refine ⟨_, (pss_cons (ps_if (pt_cmpR op_lt (pe_op op_mod (pe_callTy call_int1 (by rfl) T.z_int (by decide +kernel) (pa_cons (pv 0) pa_nil)) pe_int) pe_int (nomark _)) (pss_one (ps_ret (pe_ix (kixl (K := K)) (pe_lst (pa_cons pe_str (pa_cons pe_str (pa_cons pe_str pa_nil)))) (pe_op op_mod (pe_op op_fdiv (pv 0) pe_int) pe_int) (fun _ _ => rfl)))) pss_nil)
      (pss_cons (ps_set (i := 1) sc__law_key.nd rfl (Or.inl rfl) (pe_op op_add pe_int (pe_op op_mod (pe_op op_fdiv (pv 0) pe_int) pe_int)))
      (pss_one (ps_ret (pe_c c__law_word hr (by decide) (by rfl) (pa_cons (pv 1) (pa_cons pe_str (pa_cons (pe_op op_fdiv (pv 0) pe_int) (pa_cons pe_int pa_nil))))))))), ?_⟩
  walk_at "rds"
  refine ite2 (fun _ => ?_) (fun _ => ?_)
  · walk_at "rds"
    intro L hL
    walk_at "rds"
    obtain ⟨v, hv, hat⟩ := atI_lt (xs := [V.str "k", .str "k.1", .str "k.22"]) (i := c / 4 % 3) (by omega) (by show c / 4 % 3 < 3; omega)
    refine ⟨L, _, _, v, rfl, rfl, sq upd_same, hat, ?_⟩
    simp only [List.mem_cons, List.not_mem_nil, or_false] at hv
    rcases hv with rfl | rfl | rfl
    · exact q _ _ (same_upd hL) (by unfold Tx; decide +kernel)
    · exact q _ _ (same_upd hL) (by unfold Tx; decide +kernel)
    · exact q _ _ (same_upd hL) (by unfold Tx; decide +kernel)
  · walk_at "rds"
    have hn : ((1 + c / 4 % 20).toNat : Int) = 1 + c / 4 % 20 := Int.toNat_of_nonneg (by omega)
    refine ⟨(1 + c / 4 % 20).toNat, Str.ofString "abcdefghijklmnopqrstuvwxyz0123456789.", c / 80, 0, by rw [hn]; rfl, by omega, by decide +kernel, by decide +kernel, fun z lz mz => ?_⟩
    exact q _ z (Same.refl _) ⟨by omega, strOk_mem fun d m => (by decide +kernel : ∀ c ∈ (Str.ofString "abcdefghijklmnopqrstuvwxyz0123456789.").cps.toList, c < 0x110000) d (mz d m)⟩
theorem c__law_value {C_Store : Addr} {C_Refused : Addr} (T : Txt K mg C_Store C_Refused) : Cal P w K mg base 2 "_law_value" spTxt [] := by
  have c__law_word := c__law_word (P := P) (w := w) (base := base) T
  refine cal T.d__law_value sc__law_value (fun vs H Q E h => ?_) (fun f cdv A' outer s H vs Q E hr h => ?_)
  · obtain ⟨c, rfl, _⟩ := h; rfl
  obtain ⟨c, rfl, q⟩ := h
  refine ⟨_, (pss_cons (ps_if (pt_cmpR op_lt (pe_op op_mod (pe_callTy call_int1 (by rfl) T.z_int (by decide +kernel) (pa_cons (pv 0) pa_nil)) pe_int) pe_int (nomark _)) (pss_one (ps_ret (pe_ix (kixl (K := K)) (pe_lst (pa_cons pe_str (pa_cons pe_str (pa_cons pe_str pa_nil)))) (pe_op op_mod (pe_op op_fdiv (pv 0) pe_int) pe_int) (fun _ _ => rfl)))) pss_nil)
      (pss_cons (ps_set (i := 1) sc__law_value.nd rfl (Or.inl rfl) (pe_op op_add pe_int (pe_op op_mod (pe_op op_fdiv (pv 0) pe_int) pe_int)))
      (pss_cons (ps_set (i := 2) sc__law_value.nd rfl (Or.inl rfl) pe_str)
      (pss_one (ps_ret (pe_c c__law_word hr (by decide) (by rfl) (pa_cons (pv 1) (pa_cons (pv 2) (pa_cons (pe_op op_fdiv (pv 0) pe_int) (pa_cons pe_int pa_nil)))))))))), ?_⟩
  walk_at "rds"
  refine ite2 (fun _ => ?_) (fun _ => ?_)
  · walk_at "rds"
    intro L hL
    walk_at "rds"
    obtain ⟨v, hv, hat⟩ := atI_lt (xs := [V.str "x", .str "yy", .str "0"]) (i := c / 4 % 3) (by omega) (by show c / 4 % 3 < 3; omega)
    refine ⟨L, _, _, v, rfl, rfl, sq upd_same, hat, ?_⟩
    simp only [List.mem_cons, List.not_mem_nil, or_false] at hv
    rcases hv with rfl | rfl | rfl
    · exact q _ _ (same_upd hL) (by unfold Tx; decide +kernel)
    · exact q _ _ (same_upd hL) (by unfold Tx; decide +kernel)
    · exact q _ _ (same_upd hL) (by unfold Tx; decide +kernel)
  · walk_at "rds"
    have hn : ((1 + c / 4 % 40).toNat : Int) = 1 + c / 4 % 40 := Int.toNat_of_nonneg (by omega)
    refine ⟨(1 + c / 4 % 40).toNat, Str.ofString "!\"#$&'()*+,-./0123456789:<=>?@ABCDEFGHIJKLMNOPQRSTUVWXYZ[\\]^_`abcdefghijklmnopqrstuvwxyz{|}~", c / 160, 0, by rw [hn]; rfl, by omega, by decide +kernel, by decide +kernel, fun z lz mz => ?_⟩
    exact q _ z (Same.refl _) ⟨by omega, strOk_mem fun d m => (by decide +kernel : ∀ c ∈ (Str.ofString "!\"#$&'()*+,-./0123456789:<=>?@ABCDEFGHIJKLMNOPQRSTUVWXYZ[\\]^_`abcdefghijklmnopqrstuvwxyz{|}~").cps.toList, c < 0x110000) d (mz d m)⟩
theorem c__law_rich {C_Store : Addr} {C_Refused : Addr} (T : Txt K mg C_Store C_Refused) : Cal P w K mg base 1 "_law_rich" spRich [] := by
  refine cal T.d__law_rich sc__law_rich (fun vs H Q E h => ?_) (fun f cdv A' outer s H vs Q E hr h => ?_)
  · obtain ⟨c, k, rfl, _⟩ := h; rfl
  obtain ⟨c, k, rfl, hk0, hk1, q⟩ := h
  refine ⟨_, (pss_cons (ps_if (pt_cmpR op_ge (pv 0) (pe_op op_pow pe_int pe_int) (nomark _)) (pss_one (ps_ret (pe_callTy call_int1 (by rfl) T.z_int (by decide +kernel) (pa_cons (pv 0) pa_nil)))) pss_nil)
      (pss_cons (ps_set (i := 2) sc__law_rich.nd rfl (Or.inl rfl) (pe_op op_mod (pe_callTy call_int1 (by rfl) T.z_int (by decide +kernel) (pa_cons (pe_op op_add (pe_op op_add (pe_op op_mul (pv 0) pe_int) (pe_op op_mul (pv 1) pe_int)) pe_int) pa_nil)) pe_int))
      (pss_one (ps_ret (pe_op op_add (pe_op op_mul (pv 2) pe_int) (pe_op op_mod (pe_callTy call_int1 (by rfl) T.z_int (by decide +kernel) (pa_cons (pe_op op_add (pe_op op_mul (pv 2) pe_int) (pv 0)) pa_nil)) pe_int)))))), ?_⟩
  walk_at "rds"
  refine ite2 (fun _ => ?_) (fun _ => ?_)
  · walk_at "rds"
    exact q _
  · walk_at "rds"
    exact q _
theorem c__law_op {C_Store : Addr} {C_Refused : Addr} (T : Txt K mg C_Store C_Refused) : Cal P w K mg base 3 "_law_op" spOp [] := by
  have c__law_key := c__law_key (P := P) (w := w) (base := base) T
  have c__law_value := c__law_value (P := P) (w := w) (base := base) T
  have c__law_rich := c__law_rich (P := P) (w := w) (base := base) T
  refine cal T.d__law_op sc__law_op (fun vs H Q E h => ?_) (fun f cdv A' outer s H vs Q E hr h => ?_)
  · obtain ⟨c, k, rfl, _⟩ := h; rfl
  obtain ⟨c, k, rfl, hk0, hk1, q⟩ := h
  refine ⟨_, (pss_cons (ps_set (i := 2) sc__law_op.nd rfl (Or.inl rfl) (pe_c c__law_rich hr (by decide) (by rfl) (pa_cons (pv 0) (pa_cons (pv 1) pa_nil))))
      (pss_cons (ps_set (i := 3) sc__law_op.nd rfl (Or.inl rfl) (pe_ix (kixl (K := K)) (pe_lst (pa_cons pe_str (pa_cons pe_str (pa_cons pe_str (pa_cons pe_str (pa_cons pe_str pa_nil)))))) (pe_op op_mod (pv 2) pe_int) (fun _ _ => rfl)))
      (pss_cons (ps_set (i := 4) sc__law_op.nd rfl (Or.inl rfl) (pe_op op_fdiv (pv 2) pe_int))
      (pss_one (ps_ret (pe_tup (pa_cons (pv 3) (pa_cons (pe_op op_sub (pe_un un_neg pe_int) (pe_op op_mod (pe_op op_fdiv (pv 2) pe_int) pe_int)) (pa_cons (pe_c c__law_key hr (by decide) (by rfl) (pa_cons (pv 4) pa_nil)) (pa_cons (pe_c c__law_value hr (by decide) (by rfl) (pa_cons (pe_op op_fdiv (pv 4) pe_int) pa_nil)) (pa_cons (pe_c c__law_value hr (by decide) (by rfl) (pa_cons (pe_op op_fdiv (pv 4) pe_int) pa_nil)) pa_nil))))))))))), ?_⟩
  walk_at "rds"
  refine ⟨_, _, rfl, hk0, hk1, fun r => ?_⟩
  walk_at "rds"
  intro L hL
  walk_at "rds"
  obtain ⟨v, hv, hat⟩ := atI_lt (xs := [V.str "put", .str "put", .str "swap", .str "drop", .str "read"]) (i := r % 5) (by omega) (by show r % 5 < 5; omega)
  have : ∃ z : Str, v = .str z ∧ (z = "put" ∨ z = "swap" ∨ z = "drop" ∨ z = "read") := by
    simp only [List.mem_cons, List.not_mem_nil, or_false] at hv
    rcases hv with rfl | rfl | rfl | rfl | rfl
    · exact ⟨_, rfl, .inl rfl⟩
    · exact ⟨_, rfl, .inl rfl⟩
    · exact ⟨_, rfl, .inr (.inl rfl)⟩
    · exact ⟨_, rfl, .inr (.inr (.inl rfl))⟩
    · exact ⟨_, rfl, .inr (.inr (.inr rfl))⟩
  obtain ⟨vb, rfl, hvb⟩ := this
  refine ⟨L, _, _, _, rfl, rfl, sq upd_same, hat, ?_⟩
  have s1 := same_upd (o := .lst [V.str "put", .str "put", .str "swap", .str "drop", .str "read"]) hL
  generalize upd H L (.lst [V.str "put", .str "put", .str "swap", .str "drop", .str "read"]) = H1 at s1
  walk_at "rds"
  intro H2 zk s2 tk
  walk_at "rds"
  intro H3 zv s3 tv
  walk_at "rds"
  intro H4 zo s4 to_
  walk_at "rds"
  intro t ht
  exact q _ t ⟨vb, _, zk, zv, zo⟩ ((((s1.trans s2).trans s3).trans s4).trans (same_upd ht)) upd_same ⟨hvb, tk, tv, to_⟩
end

/-! ### the model -/
abbrev ME := List (Str × (Addr × Int × Str))
def mdD (es : ME) : List (Key × V) := kvs Sum.inr (fun x => V.ref x.1) es
def ksOf (es : ME) : ST := es.map fun e => (e.1, e.2.2)
structure MdAt (H : Hp) (M : Addr) (es : ME) : Prop where
  at_ : H M = some (.dK (mdD es))
  tp : ∀ e ∈ es, H e.2.1 = some (.tup [.int e.2.2.1, .str e.2.2.2])
theorem MdAt.on {H H' : Hp} {M : Addr} {es : ME} (h : MdAt H M es) (s : Same H H') : MdAt H' M es := ⟨s _ _ h.1, fun e m => s _ _ (h.2 e m)⟩
theorem ksOf_keys (es : ME) : (ksOf es).map (fun k => k.1) = es.map (fun k => k.1) := by unfold ksOf; rw [List.map_map]; rfl
theorem ksOf_len (es : ME) : (ksOf es).length = es.length := List.length_map _
theorem gA_ksOf : ∀ (es : ME) (c : Str), gA (ksOf es) c = (gA es c).map (·.2)
  | [], _ => rfl
  | e :: r, c => by
    have ih := gA_ksOf r c
    unfold gA ksOf at ih ⊢
    rw [List.map_cons, List.find?_cons, List.find?_cons]
    by_cases h : e.1 = c
    · rw [decide_eq_true h]
      rfl
    · rw [decide_eq_false h]; exact ih
theorem pA_ksOf (es : ME) (c : Str) (x : Addr × Int × Str) : ksOf (pA es c x) = pA (ksOf es) c x.2 := by
  unfold pA ksOf
  rw [List.any_map]
  have : ((fun k : Str × Int × Str => decide (k.1 = c)) ∘ fun e : Str × (Addr × Int × Str) => (e.1, e.2.2)) = fun k => decide (k.1 = c) := rfl
  rw [this]
  split
  · rw [List.map_map, List.map_map]
    refine List.map_congr_left fun k _ => ?_
    show (fun e : Str × (Addr × Int × Str) => (e.1, e.2.2)) (if k.1 = c then (k.1, x) else k) = if k.1 = c then (k.1, x.2) else (k.1, k.2.2)
    split <;> rfl
  · rw [List.map_append]; rfl
theorem rmA_ksOf (es : ME) (c : Str) : ksOf (rmA es c) = rmA (ksOf es) c := by
  unfold rmA ksOf
  rw [List.filter_map]; rfl
theorem md_val (es : ME) (c : Str) : valV (mdD es) (Sum.inr c : Key) = (gA es c).map fun x => V.ref x.1 := gA_kvs inrI _ es c
theorem md_put (es : ME) (k : Str) (t : Addr) (c : Int) (v : Str) : putK (mdD es) (Sum.inr k) (V.ref t) = mdD (pA es k (t, c, v)) := by unfold mdD; rw [← pA_kvs inrI]
theorem md_len (es : ME) : (mdD es).length = es.length := kvs_len _ _ _
theorem MdAt.put {H : Hp} {M : Addr} {es : ME} (h : MdAt H M es) {k : Str} {t : Addr} {c : Int} {v : Str} (ht : H t = some (.tup [.int c, .str v])) : MdAt (upd H M (.dK (mdD (pA es k (t, c, v))))) M (pA es k (t, c, v)) :=
  ⟨upd_same, fun e m => by
    have key : ∀ a xs, H a = some (.tup xs) → upd H M (.dK (mdD (pA es k (t, c, v)))) a = some (.tup xs) := fun a xs e => by rw [upd_ne (ne_of e h.1 (by intro z; cases z))]; exact e
    rcases pA_mem m with rfl | ⟨m, _⟩
    · exact key _ _ ht
    · exact key _ _ (h.2 e m)⟩
theorem MdAt.rem {H : Hp} {M : Addr} {es : ME} (h : MdAt H M es) (k : Str) : MdAt (upd H M (.dK (mdD (rmA es k)))) M (rmA es k) :=
  ⟨upd_same, fun e m => by
    rw [upd_ne (ne_of (h.2 e (List.mem_filter.mp m).1) h.1 (by intro z; cases z))]
    exact h.2 e (List.mem_filter.mp m).1⟩
def stRes (ks : ST) : Sum Str ST → (Str × Str) × ST
  | .inl z => (("refused", z), ks)
  | .inr ks' => (("done", ""), ks')
def stOp (ks : ST) (o : Opn) : (Str × Str) × ST := if o.verb = "put" then stRes ks (stPut ks o.c o.k o.v) else if o.verb = "swap" then stRes ks (stSwap ks o.k o.v o.o) else if o.verb = "drop" then stRes ks (stDrop ks o.c o.k) else match stRead ks o.k with
  | .inl z => (("refused", z), ks)
  | .inr v => (("read", v), ks)
def spLCall (C : Addr) : Sp := fun vs H Q _ => ∃ (p n a t : Addr) (ks : ST) (o : Opn), vs = [.ref p, .ref t] ∧ StAt C H p n a ks ∧ kOk ks ∧ ks.length ≤ 900 ∧ H t = some (.tup (opV o)) ∧
  ∀ H' r, But2 n a H H' → StAt C H' p n a (stOp ks o).2 → H' r = some (.tup [.str (stOp ks o).1.1, .str (stOp ks o).1.2]) → Q (.ref r) H'
def spLDue : Sp := fun vs H Q _ => ∃ (M t : Addr) (es : ME) (o : Opn), vs = [.ref M, .ref t] ∧ MdAt H M es ∧ kOk es ∧ es.length ≤ 900 ∧ H t = some (.tup (opV o)) ∧ OpOk o ∧
  ∀ H' r es', (∀ b u, H b = some u → b ≠ M → H' b = some u) → MdAt H' M es' → ksOf es' = (stOp (ksOf es) o).2 → H' r = some (.tup [.str (stOp (ksOf es) o).1.1, .str (stOp (ksOf es) o).1.2]) → Q (.ref r) H'
theorem decS (i j : Str) : decide (V.str i = V.str j) = decide (i = j) := decide_eq_decide.mpr ⟨fun z => V.str.inj z, fun z => by rw [z]⟩
section
variable {P : Program} {w : World} {K : PySem.W.Frag} {mg : Str → Option Value} {base : Heap}
theorem c__law_call {C_Store : Addr} {C_Refused : Addr} (T : Txt K mg C_Store C_Refused) : Cal P w K mg base 7 "_law_call" (spLCall C_Store) [] := by
  have m_Store__put := m_Store__put (P := P) (w := w) (base := base) T
  have m_Store__swap := m_Store__swap (P := P) (w := w) (base := base) T
  have m_Store__drop := m_Store__drop (P := P) (w := w) (base := base) T
  have m_Store__read := m_Store__read (P := P) (w := w) (base := base) T
  refine cal T.d__law_call sc__law_call (fun vs H Q E h => ?_) (fun f cdv A' outer s H vs Q E hr h => ?_)
  · obtain ⟨p, n, a, t, ks, o, rfl, _⟩ := h; rfl
  obtain ⟨p, n, a, t, ks, o, rfl, st, hok, l900, ht, q⟩ := h
  obtain ⟨dx, g⟩ := st.ins
  refine ⟨_, (pss_cons (ps_asg (pv 1) (pg_tup (by rfl) (pgs_cons (pg_name (i := 2) sc__law_call.nd rfl (Or.inl rfl)) (pgs_cons (pg_name (i := 3) sc__law_call.nd rfl (Or.inl rfl)) (pgs_cons (pg_name (i := 4) sc__law_call.nd rfl (Or.inl rfl)) (pgs_cons (pg_name (i := 5) sc__law_call.nd rfl (Or.inl rfl)) (pgs_cons (pg_name (i := 6) sc__law_call.nd rfl (Or.inl rfl)) pgs_nil)))))))
      (pss_cons (ps_try_as (i := 7) (Wout := fun _ _ _ _ => False) rfl rfl sc__law_call.nd rfl rfl ⟨by rfl, by decide, .inl T.x_Refused.g⟩ takes0 (fun W pn xe tk po => (pss_one (ps_if (pt_cmpR op_eq (pv 2) pe_str (nomark _)) (pss_one (ps_expr (pe_mtX m_Store__put hr (by decide) (fun σ => passAt tk σ) (pv 0) (pa_cons (pv 3) (pa_cons (pv 4) (pa_cons (pv 5) pa_nil)))))) (pss_one (ps_if (pt_cmpR op_eq (pv 2) pe_str (nomark _)) (pss_one (ps_expr (pe_mtX m_Store__swap hr (by decide) (fun σ => passAt tk σ) (pv 0) (pa_cons (pv 4) (pa_cons (pv 5) (pa_cons (pv 6) pa_nil)))))) (pss_one (ps_if (pt_cmpR op_eq (pv 2) pe_str (nomark _)) (pss_one (ps_expr (pe_mtX m_Store__drop hr (by decide) (fun σ => passAt tk σ) (pv 0) (pa_cons (pv 3) (pa_cons (pv 4) pa_nil))))) (pss_one (ps_ret (pe_tup (pa_cons pe_str (pa_cons (pe_mtX m_Store__read hr (by decide) (fun σ => passAt tk σ) (pv 0) (pa_cons (pv 4) pa_nil)) pa_nil)))))))))))) (fun a oe cls d pn hz hf => (pss_one (ps_ret (pe_tup (pa_cons pe_str (pa_cons (pe_xf T.x_Refused.xf T.xn_Refused_reason hz hf (pv 7)) pa_nil)))))))
      (pss_one (ps_ret (pe_tup (pa_cons pe_str (pa_cons pe_str pa_nil))))))), ?_⟩
  walk_at "rds"
  refine ⟨t, _, rfl, SqT.of ht, rfl, _, _, rfl, _, _, rfl, _, _, rfl, _, _, rfl, _, _, rfl, rfl, ?_⟩
  have refused : ∀ (H' : Hp) (d : Addr) (z : Str) (r : Addr), stOp ks o = ((("refused" : Str), z), ks) → Same H H' → H' r = none → Q (.ref r) (upd H' r (.tup [.str "refused", .str z])) := fun H' d z r e s1 hr' => by
    have st' := st.on (s1.trans (same_upd (o := .tup [.str "refused", .str z]) hr'))
    rw [e] at q
    exact q _ r (fun b u n1 n2 e => (same_upd hr') _ _ (s1 _ _ e)) st' upd_same
  have done : ∀ (H' : Hp) (ks' : ST) (r : Addr), stOp ks o = ((("done" : Str), ("" : Str)), ks') → But2 n a H H' → StAt C_Store H' p n a ks' → H' r = none → Q (.ref r) (upd H' r (.tup [.str "done", .str ""])) := fun H' ks' r e bt st' hr' => by
    rw [e] at q
    exact q _ r (fun b u n1 n2 e => (same_upd hr') _ _ (bt _ _ n1 n2 e)) (st'.on (same_upd hr')) upd_same
  walk_at "rds"
  rw [decS]
  by_cases h1 : o.verb = "put"
  · refine ifT (decide_eq_true h1) ?_
    have e0 : stOp ks o = stRes ks (stPut ks o.c o.k o.v) := by unfold stOp; rw [if_pos h1]
    walk_at "rds"
    refine ⟨p, dx, _, rfl, g, rfl, ?_⟩
    walk_at "rds"
    refine ⟨p, n, a, ks, o.c, o.k, o.v, rfl, st, by omega, ?_⟩
    cases hp : stPut ks o.c o.k o.v with
    | inl z =>
      rw [hp] at e0
      refine fun H' d s1 hd => ⟨true, T.x_Refused.exm T.u_Refused_Refused, fun _ b hb => ?_, fun z => nomatch z⟩
      walk_at "rds"
      refine ⟨rfl, rfl, d, _, _, rfl, hd, rfl, ?_⟩
      walk_at "rds"
      intro r hr'
      exact refused H' d z r e0 s1 hr'
    | inr ks' =>
      rw [hp] at e0
      refine fun H' bt st' => ?_
      walk_at "rds"
      intro r hr'
      exact done H' ks' r e0 bt st' hr'
  refine ifF (decide_eq_false h1) ?_
  walk_at "rds"
  rw [decS]
  by_cases h2 : o.verb = "swap"
  · refine ifT (decide_eq_true h2) ?_
    have e0 : stOp ks o = stRes ks (stSwap ks o.k o.v o.o) := by unfold stOp; rw [if_neg h1, if_pos h2]
    walk_at "rds"
    refine ⟨p, dx, _, rfl, g, rfl, ?_⟩
    walk_at "rds"
    refine ⟨p, n, a, ks, o.k, o.v, o.o, rfl, st, hok, by omega, ?_⟩
    cases hp : stSwap ks o.k o.v o.o with
    | inl z =>
      rw [hp] at e0
      refine fun H' d s1 hd => ⟨true, T.x_Refused.exm T.u_Refused_Refused, fun _ b hb => ?_, fun z => nomatch z⟩
      walk_at "rds"
      refine ⟨rfl, rfl, d, _, _, rfl, hd, rfl, ?_⟩
      walk_at "rds"
      intro r hr'
      exact refused H' d z r e0 s1 hr'
    | inr ks' =>
      rw [hp] at e0
      refine fun H' bt st' => ?_
      walk_at "rds"
      intro r hr'
      exact done H' ks' r e0 bt st' hr'
  refine ifF (decide_eq_false h2) ?_
  walk_at "rds"
  rw [decS]
  by_cases h3 : o.verb = "drop"
  · refine ifT (decide_eq_true h3) ?_
    have e0 : stOp ks o = stRes ks (stDrop ks o.c o.k) := by unfold stOp; rw [if_neg h1, if_neg h2, if_pos h3]
    walk_at "rds"
    refine ⟨p, dx, _, rfl, g, rfl, ?_⟩
    walk_at "rds"
    refine ⟨p, n, a, ks, o.c, o.k, rfl, st, ?_⟩
    cases hp : stDrop ks o.c o.k with
    | inl z =>
      rw [hp] at e0
      refine fun H' d s1 hd => ⟨true, T.x_Refused.exm T.u_Refused_Refused, fun _ b hb => ?_, fun z => nomatch z⟩
      walk_at "rds"
      refine ⟨rfl, rfl, d, _, _, rfl, hd, rfl, ?_⟩
      walk_at "rds"
      intro r hr'
      exact refused H' d z r e0 s1 hr'
    | inr ks' =>
      rw [hp] at e0
      refine fun H' bt st' => ?_
      walk_at "rds"
      intro r hr'
      exact done H' ks' r e0 bt st' hr'
  refine ifF (decide_eq_false h3) ?_
  walk_at "rds"
  refine ⟨p, dx, _, rfl, g, rfl, ?_⟩
  walk_at "rds"
  refine ⟨p, n, a, ks, o.k, rfl, st, ?_⟩
  cases hp : stRead ks o.k with
  | inl z =>
    have e0 : stOp ks o = ((("refused" : Str), z), ks) := by unfold stOp; rw [if_neg h1, if_neg h2, if_neg h3, hp]
    refine fun H' d s1 hd => ⟨true, T.x_Refused.exm T.u_Refused_Refused, fun _ b hb => ?_, fun z => nomatch z⟩
    walk_at "rds"
    refine ⟨rfl, rfl, d, _, _, rfl, hd, rfl, ?_⟩
    walk_at "rds"
    intro r hr'
    exact refused H' d z r e0 s1 hr'
  | inr v =>
    have e0 : stOp ks o = ((("read" : Str), v), ks) := by unfold stOp; rw [if_neg h1, if_neg h2, if_neg h3, hp]
    rw [e0] at q
    walk_at "rds"
    intro r hr'
    exact q _ r (fun b u n1 n2 e => (same_upd hr') _ _ e) (st.on (same_upd hr')) upd_same
theorem c__law_due {C_Store : Addr} {C_Refused : Addr} (T : Txt K mg C_Store C_Refused) : Cal P w K mg base 1 "_law_due" spLDue [] := by
  refine cal T.d__law_due sc__law_due (fun vs H Q E h => ?_) (fun f cdv A' outer s H vs Q E hr h => ?_)
  · obtain ⟨M, t, es, o, rfl, _⟩ := h; rfl
  obtain ⟨M, t, es, o, rfl, md, hok, l900, ht, oo, q⟩ := h
  refine ⟨_, (pss_cons (ps_asg (pv 1) (pg_tup (by rfl) (pgs_cons (pg_name (i := 2) sc__law_due.nd rfl (Or.inl rfl)) (pgs_cons (pg_name (i := 3) sc__law_due.nd rfl (Or.inl rfl)) (pgs_cons (pg_name (i := 4) sc__law_due.nd rfl (Or.inl rfl)) (pgs_cons (pg_name (i := 5) sc__law_due.nd rfl (Or.inl rfl)) (pgs_cons (pg_name (i := 6) sc__law_due.nd rfl (Or.inl rfl)) pgs_nil)))))))
      (pss_cons (ps_if (pt_cmpR op_eq (pv 2) pe_str (nomark _)) (pss_cut (ps_if (PW.pt (pw_and (pt_cmp (pc_din (by exact hu_of hr) (pv 4) (pv 0))) (pw_and1 (pt_cmpR op_ne (pe_ix (kixt (K := K)) (pe_dget (by exact hu_of hr) (pv 0) (pv 4) (fun _ _ => rfl)) pe_int (fun _ _ => rfl)) (pv 3) (nomark _))))) (pss_one (ps_ret (pe_tup (pa_cons pe_str (pa_cons pe_str pa_nil))))) pss_nil)
      (pss_cut (ps_if (PW.pt (pw_and (pt_cmp (pc_dnotin (by exact hu_of hr) (pv 4) (pv 0))) (pw_and1 (pt_cmpR op_ge (pe_callB call_lenD (by rfl) T.z_len (by decide +kernel) (pa_cons (pv 0) pa_nil)) pe_int (nomark _))))) (pss_one (ps_ret (pe_tup (pa_cons pe_str (pa_cons pe_str pa_nil))))) pss_nil)
      (pss_cons (ps_dput (hu_of hr) (pv 0) (pv 4) (pe_tup (pa_cons (pv 3) (pa_cons (pv 5) pa_nil))) rfl)
      (pss_one (ps_ret (pe_tup (pa_cons pe_str (pa_cons pe_str pa_nil)))))))) pss_nil)
      (pss_cons (ps_if (pt_cmp (pc_dnotin (by exact hu_of hr) (pv 4) (pv 0))) (pss_one (ps_ret (pe_tup (pa_cons pe_str (pa_cons pe_str pa_nil))))) pss_nil)
      (pss_cons (ps_if (pt_cmpR op_eq (pv 2) pe_str (nomark _)) (pss_one (ps_ret (pe_tup (pa_cons pe_str (pa_cons (pe_ix (kixt (K := K)) (pe_dget (by exact hu_of hr) (pv 0) (pv 4) (fun _ _ => rfl)) pe_int (fun _ _ => rfl)) pa_nil))))) pss_nil)
      (pss_cons (ps_if (pt_cmpR op_eq (pv 2) pe_str (nomark _)) (pss_cons (ps_if (pt_cmpR op_ne (pe_ix (kixt (K := K)) (pe_dget (by exact hu_of hr) (pv 0) (pv 4) (fun _ _ => rfl)) pe_int (fun _ _ => rfl)) (pv 5) (nomark _)) (pss_one (ps_ret (pe_tup (pa_cons pe_str (pa_cons pe_str pa_nil))))) pss_nil)
      (pss_cons (ps_dput (hu_of hr) (pv 0) (pv 4) (pe_tup (pa_cons (pe_ix (kixt (K := K)) (pe_dget (by exact hu_of hr) (pv 0) (pv 4) (fun _ _ => rfl)) pe_int (fun _ _ => rfl)) (pa_cons (pv 6) pa_nil))) rfl)
      (pss_one (ps_ret (pe_tup (pa_cons pe_str (pa_cons pe_str pa_nil))))))) pss_nil)
      (pss_cons (ps_if (pt_cmpR op_ne (pe_ix (kixt (K := K)) (pe_dget (by exact hu_of hr) (pv 0) (pv 4) (fun _ _ => rfl)) pe_int (fun _ _ => rfl)) (pv 3) (nomark _)) (pss_one (ps_ret (pe_tup (pa_cons pe_str (pa_cons pe_str pa_nil))))) pss_nil)
      (pss_cons (ps_expr (pe_dpop1 (pv 0) (pv 4) ⟨by rfl, by rfl, by rfl, by rfl⟩))
      (pss_one (ps_ret (pe_tup (pa_cons pe_str (pa_cons pe_str pa_nil)))))))))))), ?_⟩
  walk_at "rds"
  refine ⟨t, _, rfl, SqT.of ht, rfl, _, _, rfl, _, _, rfl, _, _, rfl, _, _, rfl, _, _, rfl, rfl, ?_⟩
  have gk := gA_ksOf es o.k
  have same : ∀ (z1 z2 : Str), stOp (ksOf es) o = ((z1, z2), ksOf es) → ∀ r, H r = none → Q (.ref r) (upd H r (.tup [.str z1, .str z2])) := fun z1 z2 e r hr' => by
    rw [e] at q
    exact q _ r es (fun b u e1 _ => (same_upd hr') _ _ e1) (md.on (same_upd hr')) rfl upd_same
  walk_at "rds"
  rw [decS]
  by_cases h1 : o.verb = "put"
  · refine ifT (decide_eq_true h1) ?_
    have e0 : stOp (ksOf es) o = stRes (ksOf es) (stPut (ksOf es) o.c o.k o.v) := by unfold stOp; rw [if_pos h1]
    generalize hσ : ((((([some (V.ref M), some (.ref t)] ++ [none, none, none, none, none] : List (Option V)).set 2 (some (V.str o.verb))).set 3 (some (V.int o.c))).set 4 (some (V.str o.k))).set 5 (some (V.str o.v))).set 6 (some (V.str o.o)) = σ0
    have sd := hσ.symm
    refine ⟨fun σ' H' => H' = H ∧ σ' = σ0 ∧ ∀ x, gA es o.k = some x → x.2.1 = o.c, ?_, ?_⟩
    · walk_at "rds"
      refine ⟨M, _, rfl, DGet.k (k := Sum.inr o.k) md.at_, ?_⟩
      rw [md_val]
      cases g : gA es o.k with
      | some x =>
        rw [g] at gk
        refine ⟨true, rfl, ?_⟩
        refine ifT rfl ?_
        walk_at "rds"
        refine ⟨M, .ref x.1, rfl, .inl ⟨_, Sum.inr o.k, .inl md.at_, rfl, by rw [md_val, g]; rfl⟩, ?_⟩
        walk_at "rds"
        refine ⟨x.1, _, 0, _, rfl, rfl, SqT.of (md.tp _ (gA_some g)), atI_nat (j := 0) rfl, ?_⟩
        walk_at "rds"
        rw [decV']
        by_cases h : x.2.1 = o.c
        · refine ifF (by rw [decide_eq_true h]; rfl) ?_
          refine ⟨rfl, sd.symm ▸ rfl, fun y e => by cases e; exact h⟩
        · refine ifT (by rw [decide_eq_false h]; rfl) ?_
          walk_at "rds"
          intro r hr'
          exact same "refused" "owner" (by rw [e0]; unfold stPut; rw [gk]; show stRes _ (if x.2.1 ≠ o.c then _ else _) = _; rw [if_pos h]; rfl) r hr'
      | none =>
        refine ⟨false, rfl, ?_⟩
        refine ifF rfl ?_
        exact ⟨rfl, sd.symm ▸ rfl, fun y e => nomatch e⟩
    rintro σ' H' ⟨rfl, rfl, own⟩
    subst hσ
    refine ⟨fun σ' H2 => H2 = H' ∧ σ' = [some (.ref M), some (.ref t), some (.str o.verb), some (.int o.c), some (.str o.k), some (.str o.v), some (.str o.o)] ∧ stPut (ksOf es) o.c o.k o.v = .inr (pA (ksOf es) o.k (o.c, o.v)), ?_, ?_⟩
    · walk_at "rds"
      refine ⟨M, _, rfl, DGet.k (k := Sum.inr o.k) md.at_, ?_⟩
      rw [md_val]
      cases g : gA es o.k with
      | some x =>
        rw [g] at gk
        have gk : gA (ksOf es) o.k = some x.2 := gk
        refine ⟨false, rfl, ?_⟩
        refine ifF rfl ?_
        exact ⟨rfl, rfl, by unfold stPut; rw [gk]; exact if_neg (fun n => n (own x g))⟩
      | none =>
        rw [g] at gk
        have gk : gA (ksOf es) o.k = none := gk
        refine ⟨true, rfl, ?_⟩
        refine ifT rfl ?_
        walk_at "rds"
        refine ⟨M, _, rfl, md.at_, ?_⟩
        rw [md_len]
        walk_at "rds"
        have lk := ksOf_len es
        by_cases h : 200 ≤ es.length
        · refine ifT (decide_eq_true (by omega)) ?_
          walk_at "rds"
          intro r hr'
          exact same "refused" "full" (by rw [e0]; unfold stPut; rw [gk]; show stRes _ (if 200 ≤ (ksOf es).length then _ else _) = _; rw [if_pos (by omega)]; rfl) r hr'
        · refine ifF (decide_eq_false (by omega)) ?_
          exact ⟨rfl, rfl, by unfold stPut; rw [gk]; exact if_neg (by omega)⟩
    rintro σ' H2 ⟨rfl, rfl, e1⟩
    rw [e1] at e0
    have e0 : stOp (ksOf es) o = ((("done" : Str), ("" : Str)), pA (ksOf es) o.k (o.c, o.v)) := e0
    walk_at "rds"
    intro u hu
    have su := same_upd (o := .tup [.int o.c, .str o.v]) hu
    have md2 := md.on su
    have eu : upd H2 u (.tup [.int o.c, .str o.v]) u = some (.tup [.int o.c, .str o.v]) := upd_same
    generalize upd H2 u (.tup [V.int o.c, .str o.v]) = H3 at su md2 eu
    walk_at "rds"
    refine ⟨M, _, rfl, DPut.k (k := Sum.inr o.k) md2.at_ (by rw [md_len]; exact sz1000' (by omega)), ?_⟩
    rw [md_put es o.k u o.c o.v]
    have md3 := md2.put (k := o.k) eu
    have k3 : ∀ b w, H2 b = some w → b ≠ M → upd H3 M (.dK (mdD (pA es o.k (u, o.c, o.v)))) b = some w := fun b w e n => by rw [upd_ne n]; exact su _ _ e
    generalize upd H3 M (.dK (mdD (pA es o.k (u, o.c, o.v)))) = H4 at md3 k3
    walk_at "rds"
    intro r hr'
    rw [e0] at q
    exact q _ r _ (fun b w e n => (same_upd hr') _ _ (k3 b w e n)) (md3.on (same_upd hr')) (pA_ksOf es o.k _) upd_same
  refine ifF (decide_eq_false h1) ?_
  walk_at "rds"
  refine ⟨M, _, rfl, DGet.k (k := Sum.inr o.k) md.at_, ?_⟩
  rw [md_val]
  have vb := oo.verb.resolve_left h1
  cases g : gA es o.k with
  | none =>
    rw [g] at gk
    have gk : gA (ksOf es) o.k = none := gk
    refine ⟨true, rfl, ?_⟩
    refine ifT rfl ?_
    walk_at "rds"
    intro r hr'
    refine same "refused" "missing" ?_ r hr'
    unfold stOp
    rw [if_neg h1]
    unfold stSwap stDrop stRead
    rw [gk]
    split
    · rfl
    · split <;> rfl
  | some x =>
    rw [g] at gk
    have gk : gA (ksOf es) o.k = some x.2 := gk
    have htx := md.tp _ (gA_some g)
    refine ⟨false, rfl, ?_⟩
    refine ifF rfl ?_
    walk_at "rds"
    rw [decS]
    by_cases h2 : o.verb = "read"
    · refine ifT (decide_eq_true h2) ?_
      walk_at "rds"
      refine ⟨M, .ref x.1, rfl, .inl ⟨_, Sum.inr o.k, .inl md.at_, rfl, by rw [md_val, g]; rfl⟩, ?_⟩
      walk_at "rds"
      refine ⟨x.1, _, 1, _, rfl, rfl, SqT.of htx, atI_nat (j := 1) rfl, ?_⟩
      walk_at "rds"
      intro r hr'
      refine same "read" x.2.2 ?_ r hr'
      unfold stOp
      rw [if_neg h1, if_neg (by rw [h2]; decide), if_neg (by rw [h2]; decide)]
      unfold stRead
      rw [gk]
    refine ifF (decide_eq_false h2) ?_
    walk_at "rds"
    rw [decS]
    by_cases h3 : o.verb = "swap"
    · have e0 : stOp (ksOf es) o = stRes (ksOf es) (stSwap (ksOf es) o.k o.v o.o) := by unfold stOp; rw [if_neg h1, if_pos h3]
      refine ifT (decide_eq_true h3) ?_
      walk_at "rds"
      refine ⟨M, .ref x.1, rfl, .inl ⟨_, Sum.inr o.k, .inl md.at_, rfl, by rw [md_val, g]; rfl⟩, ?_⟩
      walk_at "rds"
      refine ⟨x.1, _, 1, _, rfl, rfl, SqT.of htx, atI_nat (j := 1) rfl, ?_⟩
      walk_at "rds"
      rw [decS]
      by_cases h : x.2.2 = o.v
      · refine ifF (by rw [decide_eq_true h]; rfl) ?_
        have e1 : stSwap (ksOf es) o.k o.v o.o = .inr (pA (ksOf es) o.k (x.2.1, o.o)) := by unfold stSwap; rw [gk]; exact if_neg (fun n => n h)
        rw [e1] at e0
        have e0 : stOp (ksOf es) o = ((("done" : Str), ("" : Str)), pA (ksOf es) o.k (x.2.1, o.o)) := e0
        walk_at "rds"
        refine ⟨M, .ref x.1, rfl, .inl ⟨_, Sum.inr o.k, .inl md.at_, rfl, by rw [md_val, g]; rfl⟩, ?_⟩
        walk_at "rds"
        refine ⟨x.1, _, 0, _, rfl, rfl, SqT.of htx, atI_nat (j := 0) rfl, ?_⟩
        walk_at "rds"
        intro u hu
        have su := same_upd (o := .tup [.int x.2.1, .str o.o]) hu
        have md2 := md.on su
        have eu : upd H u (.tup [.int x.2.1, .str o.o]) u = some (.tup [.int x.2.1, .str o.o]) := upd_same
        generalize upd H u (.tup [V.int x.2.1, .str o.o]) = H3 at su md2 eu
        walk_at "rds"
        refine ⟨M, _, rfl, DPut.k (k := Sum.inr o.k) md2.at_ (by rw [md_len]; exact sz1000' (by omega)), ?_⟩
        rw [md_put es o.k u x.2.1 o.o]
        have md3 := md2.put (k := o.k) eu
        have k3 : ∀ b w, H b = some w → b ≠ M → upd H3 M (.dK (mdD (pA es o.k (u, x.2.1, o.o)))) b = some w := fun b w e n => by rw [upd_ne n]; exact su _ _ e
        generalize upd H3 M (.dK (mdD (pA es o.k (u, x.2.1, o.o)))) = H4 at md3 k3
        walk_at "rds"
        intro r hr'
        rw [e0] at q
        exact q _ r _ (fun b w e n => (same_upd hr') _ _ (k3 b w e n)) (md3.on (same_upd hr')) (pA_ksOf es o.k _) upd_same
      · refine ifT (by rw [decide_eq_false h]; rfl) ?_
        walk_at "rds"
        intro r hr'
        exact same "refused" "need" (by rw [e0]; unfold stSwap; rw [gk]; show stRes _ (if x.2.2 ≠ o.v then _ else _) = _; rw [if_pos h]; rfl) r hr'
    refine ifF (decide_eq_false h3) ?_
    have h4 : o.verb = "drop" := by
      rcases vb with e | e | e
      · exact absurd e h3
      · exact e
      · exact absurd e h2
    have e0 : stOp (ksOf es) o = stRes (ksOf es) (stDrop (ksOf es) o.c o.k) := by unfold stOp; rw [if_neg h1, if_neg h3, if_pos h4]
    walk_at "rds"
    refine ⟨M, .ref x.1, rfl, .inl ⟨_, Sum.inr o.k, .inl md.at_, rfl, by rw [md_val, g]; rfl⟩, ?_⟩
    walk_at "rds"
    refine ⟨x.1, _, 0, _, rfl, rfl, SqT.of htx, atI_nat (j := 0) rfl, ?_⟩
    walk_at "rds"
    rw [decV']
    by_cases h : x.2.1 = o.c
    · refine ifF (by rw [decide_eq_true h]; rfl) ?_
      have e1 : stDrop (ksOf es) o.c o.k = .inr (rmA (ksOf es) o.k) := by unfold stDrop; rw [gk]; exact if_neg (fun n => n h)
      rw [e1] at e0
      have e0 : stOp (ksOf es) o = ((("done" : Str), ("" : Str)), rmA (ksOf es) o.k) := e0
      walk_at "rds"
      refine ⟨.inl ⟨_, .inl md.at_⟩, ?_⟩
      walk_at "rds"
      refine ⟨_, Sum.inr o.k, _, md.at_, rfl, by rw [md_val, g]; rfl, ?_⟩
      rw [show dropK (mdD es) (Sum.inr o.k) = mdD (rmA es o.k) from dropK_rmA inrI _ es o.k]
      have md3 := md.rem o.k
      have k3 : ∀ b w, H b = some w → b ≠ M → upd H M (.dK (mdD (rmA es o.k))) b = some w := fun b w e n => by rw [upd_ne n]; exact e
      generalize upd H M (.dK (mdD (rmA es o.k))) = H4 at md3 k3
      walk_at "rds"
      intro r hr'
      rw [e0] at q
      exact q _ r _ (fun b w e n => (same_upd hr') _ _ (k3 b w e n)) (md3.on (same_upd hr')) (rmA_ksOf es o.k) upd_same
    · refine ifT (by rw [decide_eq_false h]; rfl) ?_
      walk_at "rds"
      intro r hr'
      exact same "refused" "owner" (by rw [e0]; unfold stDrop; rw [gk]; show stRes _ (if x.2.1 ≠ o.c then _ else _) = _; rw [if_pos h]; rfl) r hr'
end

/-! ### x.startswith(p), and x[:len(p)] == p -/
theorem cutS_take (z : Str) (n : Nat) : (cutS z none (some (n : Int))).cps.toList = z.cps.toList.take n := by
  unfold cutS
  rw [HT.sIx_nat, HT.sIx_none, List.drop_zero, Nat.sub_zero]
  show ((z.cps.toList.take (min n z.length)).toArray).toList = _
  rw [List.toList_toArray]
  have l : z.cps.toList.length = z.length := Array.length_toList
  rcases Nat.le_total n z.length with h | h
  · rw [Nat.min_eq_left h]
  · rw [Nat.min_eq_right h, List.take_of_length_le (by omega), List.take_of_length_le (by omega)]
theorem str_ext' {a b : Str} (h : a.cps.toList = b.cps.toList) : a = b := by
  have hc : a.cps = b.cps := Array.toList_inj.mp h
  cases a; cases b
  simp only [Str.mk.injEq]
  exact hc
theorem sw_cut (z p : Str) : Txt.startswith z p = decide (cutS z none (some (p.length : Int)) = p) := by
  have lp : p.cps.toList.length = p.length := Array.length_toList
  have lz : z.cps.toList.length = z.length := Array.length_toList
  unfold Txt.startswith
  by_cases h : cutS z none (some (p.length : Int)) = p
  · have e := congrArg (fun x : Str => x.cps.toList) h
    have e : (cutS z none (some (p.length : Int))).cps.toList = p.cps.toList := e
    rw [cutS_take] at e
    have l := congrArg List.length e
    rw [List.length_take, lp, lz] at l
    rw [decide_eq_true h, StrLaws.subAt_eq, List.drop_zero, e, decide_eq_true (by omega)]
    simp
  · rw [decide_eq_false h, StrLaws.subAt_eq, List.drop_zero]
    cases e : (z.cps.toList.take p.length == p.cps.toList) with
    | false => simp
    | true => exact absurd (str_ext' ((cutS_take z p.length).trans (by simpa using e))) h

/-! ### the law's rows, and its comparison -/
def spLRows (K : PySem.W.Frag) : Sp := fun vs H Q _ => ∃ (M : Addr) (es : ME), vs = [.ref M] ∧ MdAt H M es ∧ es.length ≤ 1000 ∧ kOk es ∧ Short (ksOf es) ∧
  ∀ (xs : List V) H' r, Same H H' → H r = none → H' r = some (.lst xs) → DtAll K H' none xs ((sortK (ksOf es)).map (srowD (ksOf es))) → Q (.ref r) H'
theorem srow_ly {ks : ST} (hok : kOk ks) (hs : Short ks) {k : Str} (m : k ∈ sortK ks) : Ly 4 (srowD ks k) := by
  obtain ⟨x, g, mk⟩ := sortK_get hok m
  obtain ⟨_, _, h3, h4⟩ := hs _ mk
  rw [srow_some g]
  exact ly_tup (k := 3) (ly_cons (ly_str h3) (ly_cons (ly_int _) (ly_cons (ly_str h4) ly_nil)))
theorem rows_sh {ks : ST} (hok : kOk ks) (hs : Short ks) : SeqAt.shaped (.list ((sortK ks).map (srowD ks))) = true ∧ PyData.eqv (.list ((sortK ks).map (srowD ks))) (.list ((sortK ks).map (srowD ks))) = true :=
  shpL (Ly.mono (ly_lst (k := 4) fun d m => by obtain ⟨k, mk, rfl⟩ := List.mem_map.mp m; exact srow_ly hok hs mk) (by decide))
section
variable {P : Program} {w : World} {K : PySem.W.Frag} {mg : Str → Option Value} {base : Heap}
theorem c__law_rows {C_Store : Addr} {C_Refused : Addr} (T : Txt K mg C_Store C_Refused) : Cal P w K mg base 1 "_law_rows" (spLRows K) [] := by
  refine cal T.d__law_rows sc__law_rows (fun vs H Q E h => ?_) (fun f cdv A outer s H vs Q E hr h => ?_)
  · obtain ⟨M, es, rfl, _⟩ := h; rfl
  obtain ⟨M, es, rfl, md, l1000, hoke, hz, q⟩ := h
  have hok : kOk (ksOf es) := by unfold kOk; rw [ksOf_keys]; exact hoke
  refine ⟨_, (pss_one (ps_ret (pe_lc (own := [("key", 1)]) (g := gName 1) (by rfl) sc__law_rows.nd (pi_list (pe_callB (call_sortedDS rfl (units65 hr)) (by rfl) T.z_sorted (by decide +kernel) (pa_cons (pv 0) pa_nil))) (blkOk_by (own := [("key", 1)]) (N := ["model", "key"]) (sc := defScope s__law_rows) (by decide +kernel)) (fun _ _ _ _ _ => pg_name (i := 1) sc__law_rows.nd rfl (Or.inl rfl)) (fun _ _ _ _ _ => pts_nil) (fun _ _ _ _ _ => (pe_tup (pa_cons (pv 1) (pa_cons (pe_ix (kixt (K := K)) (pe_dget (by exact hu_of hr) (pv 0) (pv 1) (fun _ _ => rfl)) pe_int (fun _ _ => rfl)) (pa_cons (pe_ix (kixt (K := K)) (pe_dget (by exact hu_of hr) (pv 0) (pv 1) (fun _ _ => rfl)) pe_int (fun _ _ => rfl)) pa_nil)))))))), ?_⟩
  walk_at "rds"
  refine ⟨M, _, es.map (fun k => k.1), rfl, .inl md.at_, (by exact kvs_keys), by rw [List.length_map]; omega, fun l hl => ?_⟩
  walk_at "rds"
  have s1 : Same H (upd H l (.lst ((sortK (ksOf es)).map V.str))) := same_upd hl
  have hl1 : upd H l (.lst ((sortK (ksOf es)).map V.str)) l = some (.lst ((sortK (ksOf es)).map V.str)) := upd_same
  have e1 : upd H l (.lst ((sortS (es.map fun k => k.1)).map V.str)) = upd H l (.lst ((sortK (ksOf es)).map V.str)) := by unfold sortK; rw [ksOf_keys]
  rw [e1]
  generalize upd H l (.lst ((sortK (ksOf es)).map V.str)) = H1 at s1 hl1
  have lK : (sortK (ksOf es)).length ≤ 1000 := by rw [sortK_len, ksOf_len]; exact l1000
  refine ⟨⟨_, sq hl1⟩, fun D hD => ?_⟩
  refine lc_it (walk_list (K := K) (a := l) (xs := (sortK (ksOf es)).map V.str)) (Pv := fun i H' => ∃ xs, Same H1 H' ∧ H' D = some (.lst xs) ∧ DtAll K H' none xs (((sortK (ksOf es)).take i).map (srowD (ksOf es)))) ⟨[], same_upd hD, upd_same, .nil⟩ (fun _ _ _ h => by obtain ⟨_, h, _⟩ := h; exact sq (h _ _ hl1)) (fun i x H6 H7 hi hp2 hy => ?_) (fun H6 hp2 => ?_)
  · obtain ⟨xs, s6, hD6, hx6⟩ := hp2
    obtain ⟨rfl, gx⟩ := hy
    rw [List.length_map] at hi
    rw [List.getElem?_map, List.getElem?_eq_getElem hi] at gx
    obtain rfl : V.str (sortK (ksOf es))[i] = x := Option.some.inj gx
    obtain ⟨y, gy, my⟩ := sortK_get hok (List.getElem_mem hi)
    have ht : (sortK (ksOf es)).take (i + 1) = (sortK (ksOf es)).take i ++ [(sortK (ksOf es))[i]] := by rw [List.take_add_one, List.getElem?_eq_getElem hi]; rfl
    have md7 := md.on (s1.trans s6)
    rw [ht, List.map_append]
    generalize (sortK (ksOf es))[i] = c at gy my
    rw [gA_ksOf, Option.map_eq_some_iff] at gy
    obtain ⟨x, gk, rfl⟩ := gy
    have e3 : srowD (ksOf es) c = .tuple [.str c, .int x.2.1, .str x.2.2] := srow_some (by rw [gA_ksOf, gk]; rfl)
    have hc := hz _ my
    have hkt := md7.tp _ (gA_some gk)
    refine ⟨rfl, tyes ?_⟩
    walk_at "rds"
    refine ⟨M, _, rfl, .inl ⟨_, Sum.inr c, .inl md7.at_, rfl, by rw [md_val, gk]; rfl⟩, ?_⟩
    walk_at "rds"
    refine ⟨x.1, _, 0, _, rfl, rfl, SqT.of hkt, atI_nat (j := 0) rfl, ?_⟩
    walk_at "rds"
    refine ⟨M, _, rfl, .inl ⟨_, Sum.inr c, .inl md7.at_, rfl, by rw [md_val, gk]; rfl⟩, ?_⟩
    walk_at "rds"
    refine ⟨x.1, _, 1, _, rfl, rfl, SqT.of hkt, atI_nat (j := 1) rfl, ?_⟩
    walk_at "rds"
    intro t htn
    have hD7 := (same_upd (o := .tup [.str c, .int x.2.1, .str x.2.2]) htn) _ _ hD6
    have hxl : xs.length ≤ i := by rw [hx6.length, List.length_map, List.length_take]; omega
    refine ⟨xs, hD7, sz1000' (by omega), xs ++ [.ref t], same_mut (s6.trans (same_upd htn)) hD, upd_same, ?_⟩
    have hdt : Dt K (upd H7 t (.tup [.str c, .int x.2.1, .str x.2.2])) none (.ref t) (srowD (ksOf es) c) := by
      rw [e3]
      exact .tup (.inl upd_same) (.cons (.str _ (by have := hc.1; show c.length ≤ 1000000; exact Nat.le_trans this (by decide))) (.cons (.int _) (.cons (.str _ (by have := hc.2.1; exact Nat.le_trans this (by decide))) .nil)))
    refine DtAll.keep (tp_put hD7) _ _ (noLs_all fun d hd => ?_) ((hx6.on (same_upd htn)).snoc hdt)
    rcases List.mem_append.mp hd with hd | hd
    · obtain ⟨z, _, rfl⟩ := List.mem_map.mp hd; exact srow_noL z
    · rw [List.mem_singleton.mp hd]; exact srow_noL c
  · obtain ⟨xs, s6, hD6, hx6⟩ := hp2
    rw [List.length_map, List.take_of_length_le (Nat.le_refl _)] at hx6
    exact q xs H6 D (s1.trans s6) (same_none s1 hD) hD6 hx6
end
theorem dt_strs {K : PySem.W.Frag} {H : Hp} {A : Option Addr} : ∀ {ks : List Str}, (∀ k ∈ ks, k.length ≤ 1000000) → DtAll K H A (ks.map V.str) (ks.map PyData.str)
  | [], _ => .nil
  | k :: r, h => .cons (.str k (h k List.mem_cons_self)) (dt_strs fun z m => h z (List.mem_cons_of_mem _ m))
def spSameS (C : Addr) : Sp := fun vs H Q _ => ∃ (p n a M : Addr) (es : ME) (z : Str), vs = [.ref p, .ref M, .str z] ∧ StAt C H p n a (ksOf es) ∧ MdAt H M es ∧ es.length ≤ 900 ∧ kOk es ∧ Short (ksOf es) ∧ z.length ≤ 1000 ∧ ∀ H', Same H H' → Q (.bl true) H'
section
variable {P : Program} {w : World} {K : PySem.W.Frag} {mg : Str → Option Value} {base : Heap}
theorem c__law_same {C_Store : Addr} {C_Refused : Addr} (T : Txt K mg C_Store C_Refused) : Cal P w K mg base 2 "_law_same" (spSameS C_Store) [] := by
  have m_Store__rows := m_Store__rows (P := P) (w := w) (K := K) (base := base) T
  have m_Store__matching := m_Store__matching (P := P) (w := w) (K := K) (base := base) T
  have c__law_rows := c__law_rows (P := P) (w := w) (K := K) (base := base) T
  refine cal T.d__law_same sc__law_same (fun vs H Q E h => ?_) (fun f cdv A' outer s H vs Q E hr h => ?_)
  · obtain ⟨p, n, a, M, es, z, rfl, _⟩ := h; rfl
  obtain ⟨p, n, a, M, es, z, rfl, st, md, l900, hoke, hz, lz, q⟩ := h
  have hok : kOk (ksOf es) := by unfold kOk; rw [ksOf_keys]; exact hoke
  have lks := ksOf_len es
  obtain ⟨dx, g⟩ := st.ins
  refine ⟨_, (pss_cons (ps_if (pt_cmpR (op_neD hr.units) (pe_mt0 m_Store__rows hr (by decide) (pv 0)) (pe_c c__law_rows hr (by decide) (by rfl) (pa_cons (pv 1) pa_nil)) (nomark _)) (pss_one (ps_ret pe_bl)) pss_nil)
      (pss_cons (ps_setLc (i := 3) (own := [("key", 5)]) (g := gName 5) rfl sc__law_same.nd rfl rfl (sw_true rfl rfl rfl (by decide +kernel)) (pi_list (pe_callB (call_sortedDS rfl (units65 hr)) (by rfl) T.z_sorted (by decide +kernel) (pa_cons (pv 1) pa_nil))) (blkOk_by (own := [("key", 5)]) (N := ["store", "model", "prefix", "keys", "found", "key"]) (sc := defScope s__law_same) (by decide +kernel)) (fun _ _ _ _ _ => pg_name (i := 5) sc__law_same.nd rfl (Or.inl rfl)) (fun _ _ _ _ _ => pts_one (pt_cmpR op_eq (pe_slice sl_str (pv 5) po_none (po_some (pe_callB call_len_str (by rfl) T.z_len (by decide +kernel) (pa_cons (pv 2) pa_nil)))) (pv 2) (nomark _))) (fun _ _ _ _ _ => (pv 5)))
      (pss_cons (ps_set (i := 4) sc__law_same.nd rfl (Or.inl rfl) (pe_mt m_Store__matching hr (by decide) (pv 0) (pa_cons (pv 2) pa_nil)))
      (pss_one (ps_ret (pe_and (pe_callB (kisi (K := K)) (by rfl) T.z_isinstance (by decide +kernel) (pa_cons (pv 4) (pa_cons (pe_bltn (v := .ty "list") (by rfl) T.z_list (by decide +kernel) rfl) pa_nil))) (pe_one (pe_cmpR (op_eqD hr.units) (pv 4) (pv 3) (nomark _))))))))), ?_⟩
  walk_at "rds"
  refine ⟨p, dx, _, rfl, g, rfl, ?_⟩
  walk_at "rds"
  refine ⟨p, n, a, ksOf es, rfl, st, by omega, hok, hz, fun xs1 H1 r1 s1 f1 e1 d1 => ?_⟩
  walk_at "rds"
  refine ⟨M, es, rfl, md.on s1, by omega, hoke, hz, fun xs2 H2 r2 s2 f2 e2 d2 => ?_⟩
  obtain ⟨sh1, sh2⟩ := rows_sh hok hz
  refine ⟨_, _, .lst (.of (s2 _ _ e1)) (DtAll.dp _ _ (d1.on s2)), .lst (.of e2) (DtAll.dp _ _ d2), sh1, sh1, ?_⟩
  rw [sh2]
  refine ⟨_, rfl, ?_⟩
  refine ifF rfl ?_
  have s3 := s1.trans s2
  have md3 := md.on s3
  walk_at "rds"
  refine ⟨M, _, es.map (fun k => k.1), rfl, .inl md3.at_, (by exact kvs_keys), by rw [List.length_map]; omega, fun l hl => ?_⟩
  walk_at "rds"
  have s4 : Same H (upd H2 l (.lst ((sortK (ksOf es)).map V.str))) := s3.trans (same_upd hl)
  have hl1 : upd H2 l (.lst ((sortK (ksOf es)).map V.str)) l = some (.lst ((sortK (ksOf es)).map V.str)) := upd_same
  have el : upd H2 l (.lst ((sortS (es.map fun k => k.1)).map V.str)) = upd H2 l (.lst ((sortK (ksOf es)).map V.str)) := by unfold sortK; rw [ksOf_keys]
  rw [el]
  generalize upd H2 l (.lst ((sortK (ksOf es)).map V.str)) = H3 at s4 hl1
  have lK : (sortK (ksOf es)).length ≤ 1000 := by rw [sortK_len]; omega
  have tx : ∀ k ∈ sortK (ksOf es), k.length ≤ 1000 ∧ PyData.strOk k = true := fun k m => by
    obtain ⟨x, _, mx⟩ := sortK_get hok m
    exact ⟨(hz _ mx).1, (hz _ mx).2.2.1⟩
  have st3 := st.on s4
  clear e1 e2 d1 d2 md3
  refine ⟨⟨_, sq hl1⟩, fun D hD => ?_⟩
  generalize hys : sortK (ksOf es) = ys at lK tx hl1
  refine lc_it (walk_list (K := K) (a := l) (xs := ys.map V.str)) (Pv := fun i H' => Same H3 H' ∧ H' D = some (.lst (((ys.take i).filter fun k => Txt.startswith k z).map V.str))) ⟨same_upd hD, upd_same⟩ (fun _ _ _ h => sq (h.1 _ _ hl1)) (fun i x H6 H7 hi hp2 hy => ?_) (fun H6 hp2 => ?_)
  · obtain ⟨s6, hD6⟩ := hp2
    obtain ⟨rfl, gx⟩ := hy
    rw [List.length_map] at hi
    rw [List.getElem?_map, List.getElem?_eq_getElem hi] at gx
    obtain rfl : V.str ys[i] = x := Option.some.inj gx
    have ll : ((ys.take i).filter fun k => Txt.startswith k z).length ≤ 1000 := by
      refine Nat.le_trans (List.length_filter_le _ _) ?_
      rw [List.length_take]; omega
    have tk2 : ((ys.take (i + 1)).filter fun k => Txt.startswith k z) = ((ys.take i).filter fun k => Txt.startswith k z) ++ (if Txt.startswith ys[i] z = true then [ys[i]] else []) := by
      rw [List.take_add_one, List.getElem?_eq_getElem hi, List.filter_append]
      congr 1
      show List.filter _ [_] = _
      rw [List.filter_cons, List.filter_nil]
    have txi := tx _ (List.getElem_mem hi)
    generalize (ys.take i).filter (fun k => Txt.startswith k z) = acc at hD6 tk2 ll
    generalize ys[i] = c at tk2 txi
    refine ⟨rfl, ?_⟩
    walk_at "rds"
    have hb : decide (V.str (cutS c none (some (z.length : Int))) = V.str z) = Txt.startswith c z := by rw [decS, sw_cut]
    cases hb2 : Txt.startswith c z with
    | true =>
      rw [hb2, if_pos rfl] at tk2
      refine ifT (hb.trans hb2) ?_
      walk_at "rds"
      exact ⟨_, hD6, sz1000' (by rw [List.length_map]; omega), same_mut s6 hD, by rw [upd_same, tk2, List.map_append]; rfl⟩
    | false =>
      rw [hb2, if_neg (by decide), List.append_nil] at tk2
      refine ifF (hb.trans hb2) ?_
      exact ⟨s6, by rw [tk2]; exact hD6⟩
  · obtain ⟨s6, hD6⟩ := hp2
    rw [List.length_map, List.take_of_length_le (Nat.le_refl _)] at hD6
    have st6 := st3.on s6
    obtain ⟨dx6, g6⟩ := st6.ins
    walk_at "rds"
    refine ⟨p, dx6, _, rfl, g6, rfl, ?_⟩
    walk_at "rds"
    refine ⟨p, n, a, ksOf es, z, rfl, st6, by omega, fun H8 r8 s8 f8 e8 => ?_⟩
    rw [hys] at e8
    walk_at "rds"
    walk_at "isi"
    have txf : ∀ k ∈ ys.filter (fun k => Txt.startswith k z), k.length ≤ 1000000 ∧ PyData.strOk k = true := fun k m => ⟨Nat.le_trans (tx k (List.mem_filter.mp m).1).1 (by decide), (tx k (List.mem_filter.mp m).1).2⟩
    have shl := shpL (Ly.mono (ly_lst (k := 0) (ds := (ys.filter fun k => Txt.startswith k z).map PyData.str) fun d m => by obtain ⟨k, mk, rfl⟩ := List.mem_map.mp m; exact ly_str (txf k mk).2) (by decide))
    walk_at "rds"
    refine ⟨_, _, .lst (.of e8) (DtAll.dp _ _ (dt_strs (A := none) fun k m => (txf k m).1)), .lst (.of (s8 _ _ hD6)) (DtAll.dp _ _ (dt_strs (A := none) fun k m => (txf k m).1)), shl.1, shl.1, ?_⟩
    rw [shl.2]
    exact q _ ((s4.trans s6).trans s8)
end

--@SPLIT
/-! ### the law -/
structure LS1 (C : Addr) (H H' : Hp) (p n an M : Addr) (ks : ST) (es : ME) : Prop where
  sm : Same H H'
  hn : H n = none
  han : H an = none
  hM : H M = none
  st : StAt C H' p n an ks
  md : MdAt H' M es
  d7 : n ≠ M
  d8 : an ≠ M
theorem LS1.on {C : Addr} {H H' H2 : Hp} {p n an M : Addr} {ks : ST} {es : ME} (h : LS1 C H H' p n an M ks es) (s : Same H' H2) : LS1 C H H2 p n an M ks es := { h with sm := h.sm.trans s, st := h.st.on s, md := h.md.on s }
theorem LS1.store {C : Addr} {H H' H2 : Hp} {p n an M : Addr} {ks ks' : ST} {es : ME} (h : LS1 C H H' p n an M ks es) (b : But2 n an H' H2) (st : StAt C H2 p n an ks') : LS1 C H H2 p n an M ks' es :=
  { h with
    sm := fun x o e => b _ _ (ne_of_none e h.hn) (ne_of_none e h.han) (h.sm _ _ e)
    st := st
    md := ⟨b _ _ h.d7.symm h.d8.symm h.md.1, fun e m => b _ _ (ne_of (h.md.2 e m) h.st.ow (by intro z; cases z)) (ne_of (h.md.2 e m) h.st.va (by intro z; cases z)) (h.md.2 e m)⟩ }
theorem LS1.model {C : Addr} {H H' H2 : Hp} {p n an M : Addr} {ks : ST} {es es' : ME} (h : LS1 C H H' p n an M ks es) (k : ∀ b u, H' b = some u → b ≠ M → H2 b = some u) (md : MdAt H2 M es') : LS1 C H H2 p n an M ks es' := by
  obtain ⟨dx, g⟩ := h.st.ins
  exact { h with
    sm := fun x o e => k _ _ (h.sm _ _ e) (ne_of_none e h.hM)
    st := ⟨⟨dx, k _ _ g (ne_of g h.md.1 (by intro z; cases z))⟩, k _ _ h.st.ow h.d7, k _ _ h.st.va h.d8, h.st.ne⟩
    md := md }
structure LS (K : PySem.W.Frag) (C : Addr) (H H' : Hp) (p n an M p2 n2 a2 Kd : Addr) (ks : ST) (es : ME) (ks2 : ST) (kx : List V) : Prop where
  l1 : LS1 C H H' p n an M ks es
  st2 : StAt C H' p2 n2 a2 ks2
  kd : H' Kd = some (.lst kx)
  kdt : DtAll K H' none kx ((sortK ks2).map (srowD ks2))
  d1 : n ≠ n2
  d2 : n ≠ a2
  d3 : an ≠ n2
  d4 : an ≠ a2
  d9 : M ≠ n2
  d10 : M ≠ a2
theorem rows_noL (ks : ST) (ys : List Str) : noLs (ys.map (srowD ks)) = true := noLs_all fun d hd => by obtain ⟨z, _, rfl⟩ := List.mem_map.mp hd; exact srow_noL z
theorem LS.on {K : PySem.W.Frag} {C : Addr} {H H' H2 : Hp} {p n an M p2 n2 a2 Kd : Addr} {ks : ST} {es : ME} {ks2 : ST} {kx : List V} (h : LS K C H H' p n an M p2 n2 a2 Kd ks es ks2 kx) (s : Same H' H2) : LS K C H H2 p n an M p2 n2 a2 Kd ks es ks2 kx :=
  { h with l1 := h.l1.on s, st2 := h.st2.on s, kd := s _ _ h.kd, kdt := h.kdt.on s }
theorem LS.store {K : PySem.W.Frag} {C : Addr} {H H' H2 : Hp} {p n an M p2 n2 a2 Kd : Addr} {ks ks' : ST} {es : ME} {ks2 : ST} {kx : List V} (h : LS K C H H' p n an M p2 n2 a2 Kd ks es ks2 kx) (b : But2 n an H' H2) (st : StAt C H2 p n an ks') : LS K C H H2 p n an M p2 n2 a2 Kd ks' es ks2 kx := by
  obtain ⟨dx, g⟩ := h.st2.ins
  have o := h.l1.st.ow
  have v := h.l1.st.va
  exact { h with
    l1 := h.l1.store b st
    st2 := ⟨⟨dx, b _ _ (ne_of g o (by intro z; cases z)) (ne_of g v (by intro z; cases z)) g⟩, b _ _ h.d1.symm h.d3.symm h.st2.ow, b _ _ h.d2.symm h.d4.symm h.st2.va, h.st2.ne⟩
    kd := b _ _ (ne_of h.kd o (by intro z; cases z)) (ne_of h.kd v (by intro z; cases z)) h.kd
    kdt := DtAll.keep (fun a xs e => b _ _ (ne_of e o (by intro z; cases z)) (ne_of e v (by intro z; cases z)) e) _ _ (rows_noL _ _) h.kdt }
theorem LS.model {K : PySem.W.Frag} {C : Addr} {H H' H2 : Hp} {p n an M p2 n2 a2 Kd : Addr} {ks : ST} {es es' : ME} {ks2 : ST} {kx : List V} (h : LS K C H H' p n an M p2 n2 a2 Kd ks es ks2 kx) (k : ∀ b u, H' b = some u → b ≠ M → H2 b = some u) (md : MdAt H2 M es') : LS K C H H2 p n an M p2 n2 a2 Kd ks es' ks2 kx := by
  obtain ⟨dx, g⟩ := h.st2.ins
  have o := h.l1.md.1
  exact { h with
    l1 := h.l1.model k md
    st2 := ⟨⟨dx, k _ _ g (ne_of g o (by intro z; cases z))⟩, k _ _ h.st2.ow h.d9.symm, k _ _ h.st2.va h.d10.symm, h.st2.ne⟩
    kd := k _ _ h.kd (ne_of h.kd o (by intro z; cases z))
    kdt := DtAll.keep (fun a xs e => k _ _ e (ne_of e o (by intro z; cases z))) _ _ (rows_noL _ _) h.kdt }
structure Good (ks : ST) (m : Nat) : Prop where
  ok : kOk ks
  sh : Short ks
  len : ks.length ≤ m
theorem Good.put {ks : ST} {m : Nat} (h : Good ks m) {k v : Str} (c : Int) (tk : Tx k) (tv : Tx v) : Good (pA ks k (c, v)) (m + 1) :=
  ⟨pA_ok k (c, v) h.ok, fun e me => by
    rcases pA_mem me with rfl | ⟨me, _⟩
    · exact ⟨tk.1, tv.1, tk.2, tv.2⟩
    · exact h.sh e me, by have := pA_len ks k (c, v); have := h.len; omega⟩
theorem Good.rem {ks : ST} {m : Nat} (h : Good ks m) (k : Str) : Good (rmA ks k) (m + 1) :=
  ⟨rmA_ok k h.ok, fun e me => h.sh e (List.mem_filter.mp me).1, by have := rmA_len ks k; have := h.len; omega⟩
theorem Good.mono {ks : ST} {m m' : Nat} (h : Good ks m) (l : m ≤ m') : Good ks m' := ⟨h.ok, h.sh, Nat.le_trans h.len l⟩
theorem Good.op {ks : ST} {m : Nat} (h : Good ks m) {o : Opn} (oo : OpOk o) : Good (stOp ks o).2 (m + 1) := by
  have h' := h.mono (Nat.le_succ m)
  have res : ∀ r : Sum Str ST, (∀ k, r = .inr k → Good k (m + 1)) → Good (stRes ks r).2 (m + 1) := fun r hr => by
    cases r with
    | inl z => exact h'
    | inr k => exact hr k rfl
  unfold stOp
  split
  · refine res _ fun k e => ?_
    unfold stPut at e
    split at e
    · split at e
      · cases e
      · cases e; exact h.put _ oo.k oo.v
    · split at e
      · cases e
      · cases e; exact h.put _ oo.k oo.v
  · split
    · refine res _ fun k e => ?_
      unfold stSwap at e
      split at e
      · split at e
        · cases e
        · cases e; exact h.put _ oo.k oo.o
      · cases e
    · split
      · refine res _ fun k e => ?_
        unfold stDrop at e
        split at e
        · split at e
          · cases e
          · cases e; exact h.rem _
        · cases e
      · split
        · exact h'
        · exact h'
theorem tx_const {z : Str} (h : (decide (z.length ≤ 1000) && PyData.strOk z) = true) : Tx z := by
  rw [Bool.and_eq_true] at h
  exact ⟨of_decide_eq_true h.1, h.2⟩
theorem stOp_tx {ks : ST} {m : Nat} (h : Good ks m) {o : Opn} : Tx (stOp ks o).1.1 ∧ Tx (stOp ks o).1.2 := by
  have c : ∀ z : Str, (z = "owner" ∨ z = "full" ∨ z = "missing" ∨ z = "need") → Tx z := fun z hz => by
    rcases hz with rfl | rfl | rfl | rfl <;> exact tx_const (by decide +kernel)
  have td : Tx "done" := tx_const (by decide +kernel)
  have tr : Tx "refused" := tx_const (by decide +kernel)
  have tn : Tx "" := tx_const (by decide +kernel)
  have tre : Tx "read" := tx_const (by decide +kernel)
  have res : ∀ r : Sum Str ST, (∀ z, r = .inl z → Tx z) → Tx (stRes ks r).1.1 ∧ Tx (stRes ks r).1.2 := fun r hr => by
    cases r with
    | inl z => exact ⟨tr, hr z rfl⟩
    | inr k => exact ⟨td, tn⟩
  unfold stOp
  split
  · refine res _ fun z e => c z ?_
    unfold stPut at e
    split at e
    · split at e
      · cases e; exact .inl rfl
      · cases e
    · split at e
      · cases e; exact .inr (.inl rfl)
      · cases e
  · split
    · refine res _ fun z e => c z ?_
      unfold stSwap at e
      split at e
      · split at e
        · cases e; exact .inr (.inr (.inr rfl))
        · cases e
      · cases e; exact .inr (.inr (.inl rfl))
    · split
      · refine res _ fun z e => c z ?_
        unfold stDrop at e
        split at e
        · split at e
          · cases e; exact .inl rfl
          · cases e
        · cases e; exact .inr (.inr (.inl rfl))
      · cases hr : stRead ks o.k with
        | inl z =>
          refine ⟨tr, c z ?_⟩
          unfold stRead at hr
          split at hr
          · cases hr
          · cases hr; exact .inr (.inr (.inl rfl))
        | inr v =>
          refine ⟨tre, ?_⟩
          unfold stRead at hr
          split at hr
          · rename_i x g
            cases hr
            have := h.sh _ (gA_some g)
            exact ⟨this.2.1, this.2.2.2⟩
          · cases hr
theorem tz_all (i : Nat) (h : i < 200) : Tx (Str.ofString "z" ++ Str.ofString (toString (i : Int))) :=
  tx_const ((by decide +kernel : ∀ j : Fin 200, (decide ((Str.ofString "z" ++ Str.ofString (toString ((j.val : Nat) : Int))).length ≤ 1000) && PyData.strOk (Str.ofString "z" ++ Str.ofString (toString ((j.val : Nat) : Int)))) = true) ⟨i, h⟩)
theorem kOk_es {es : ME} : kOk (ksOf es) → kOk es := fun h => by unfold kOk at h ⊢; rw [ksOf_keys] at h; exact h
section
variable {P : Program} {w : World} {K : PySem.W.Frag} {mg : Str → Option Value} {base : Heap}
theorem ok_law {C_Store : Addr} {C_Refused : Addr} {f : Addr} {fd : FuncData} (F : L2.Fun K "law" "law" s_law f fd) (T : Txt K mg C_Store C_Refused) : FnOk P w K mg base L2.CX0 9 f fd ["script"] (spLaw K) := by
  have c__law_op := c__law_op (P := P) (w := w) (base := base) T
  have c__law_call := c__law_call (P := P) (w := w) (base := base) T
  have c__law_due := c__law_due (P := P) (w := w) (base := base) T
  have c__law_same := c__law_same (P := P) (w := w) (K := K) (base := base) T
  have c__law_rows := c__law_rows (P := P) (w := w) (K := K) (base := base) T
  have k_Store := k_Store (P := P) (w := w) (base := base) T
  have m_Store__put := m_Store__put (P := P) (w := w) (base := base) T
  have m_Store__clone := m_Store__clone (P := P) (w := w) (base := base) T
  have m_Store__rows := m_Store__rows (P := P) (w := w) (K := K) (base := base) T
  refine F.ok sc_law (fun vs H Q E h => ?_) (fun cdv A outer s H vs Q E hr h => ?_)
  · obtain ⟨a, ns, rfl, _⟩ := h; rfl
  obtain ⟨a, ns, rfl, hS, hlen, q⟩ := h
  refine ⟨_, (pss_cons (ps_set (i := 1) sc_law.nd rfl (Or.inl rfl) (pe_mk0 k_Store hr (by decide) (by rfl)))
      (pss_cons (ps_set (i := 2) sc_law.nd rfl (Or.inl rfl) pe_dnewK)
      (pss_cons (ps_if (pt_cmpR op_ne (pe_gc (by rfl) T.c_ENTRY_LIMIT) pe_int (nomark _)) (pss_one (ps_ret pe_bl)) pss_nil)
      (pss_cut (ps_if (PW.pt (pw_and (pt_cmpR op_gt (pe_callB (klen (K := K)) (by rfl) T.z_len (by decide +kernel) (pa_cons (pv 0) pa_nil)) pe_int (nomark _)) (pw_and1 (pt_cmpR op_eq (pe_op op_mod (pe_callTy call_int1 (by rfl) T.z_int (by decide +kernel) (pa_cons (pe_ix (kixl (K := K)) (pv 0) pe_int (fun _ _ => rfl)) pa_nil)) pe_int) pe_int (nomark _))))) (pss_one (ps_for PassesOwn.never rfl (pi_range1 (by rfl) T.z_range (pa_cons (pe_op op_add pe_int (pe_op op_mod (pe_op op_fdiv (pe_callTy call_int1 (by rfl) T.z_int (by decide +kernel) (pa_cons (pe_ix (kixl (K := K)) (pv 0) pe_int (fun _ _ => rfl)) pa_nil)) pe_int) pe_int)) pa_nil)) (pg_name (i := 3) sc_law.nd rfl (Or.inl rfl)) (pss_cons (ps_set (i := 4) sc_law.nd rfl (Or.inl rfl) (pe_op op_add_str pe_str (pe_callTy call_str_int (by rfl) T.z_str (by decide +kernel) (pa_cons (pv 3) pa_nil))))
      (pss_cons (ps_expr (pe_mtX m_Store__put hr (by decide) no_pass (pv 1) (pa_cons (pe_un un_neg pe_int) (pa_cons (pv 4) (pa_cons pe_str pa_nil)))))
      (pss_one (ps_dput (hu_of hr) (pv 2) (pv 4) (pe_tup (pa_cons (pe_un un_neg pe_int) (pa_cons pe_str pa_nil))) rfl)))))) pss_nil)
      (pss_cons (ps_set (i := 5) sc_law.nd rfl (Or.inl rfl) (pe_mt0 m_Store__clone hr (by decide) (pv 1)))
      (pss_cons (ps_set (i := 6) sc_law.nd rfl (Or.inl rfl) (pe_c c__law_rows hr (by decide) (by rfl) (pa_cons (pv 2) pa_nil)))
      (pss_cons (ps_for PassesOwn.never rfl (pi_range1 (by rfl) T.z_range (pa_cons (pe_callB (klen (K := K)) (by rfl) T.z_len (by decide +kernel) (pa_cons (pv 0) pa_nil)) pa_nil)) (pg_name (i := 3) sc_law.nd rfl (Or.inl rfl)) (pss_cons (ps_set (i := 7) sc_law.nd rfl (Or.inl rfl) (pe_c c__law_op hr (by decide) (by rfl) (pa_cons (pe_ix (kixl (K := K)) (pv 0) (pv 3) (fun _ _ => rfl)) (pa_cons (pv 3) pa_nil))))
      (pss_cons (ps_set (i := 8) sc_law.nd rfl (Or.inl rfl) (pe_c c__law_due hr (by decide) (by rfl) (pa_cons (pv 2) (pa_cons (pv 7) pa_nil))))
      (pss_cons (ps_if (pt_cmpR (op_neD hr.units) (pe_c c__law_call hr (by decide) (by rfl) (pa_cons (pv 1) (pa_cons (pv 7) pa_nil))) (pv 8) (nomark _)) (pss_one (ps_ret pe_bl)) pss_nil)
      (pss_cons (ps_if (pt_not (pt_val (pe_c c__law_same hr (by decide) (by rfl) (pa_cons (pv 1) (pa_cons (pv 2) (pa_cons (pe_slice sl_str (pe_ix (kixt (K := K)) (pv 7) pe_int (fun _ _ => rfl)) po_none (po_some (pe_op op_add pe_int (pe_op op_mod (pv 3) pe_int)))) pa_nil)))))) (pss_one (ps_ret pe_bl)) pss_nil)
      (pss_cons (ps_if (pt_cmpR (op_neD hr.units) (pe_mt0 m_Store__rows hr (by decide) (pv 5)) (pv 6) (nomark _)) (pss_one (ps_ret pe_bl)) pss_nil)
      (pss_one (ps_if (pt_cmpR op_eq (pe_op op_mod (pv 3) pe_int) pe_int (nomark _)) (pss_cons (ps_set (i := 5) sc_law.nd rfl (Or.inl rfl) (pe_mt0 m_Store__clone hr (by decide) (pv 1)))
      (pss_one (ps_set (i := 6) sc_law.nd rfl (Or.inl rfl) (pe_c c__law_rows hr (by decide) (by rfl) (pa_cons (pv 2) pa_nil))))) pss_nil))))))))
      (pss_one (ps_ret (pe_cmpR (op_eqD hr.units) (pe_mt0 m_Store__rows hr (by decide) (pv 1)) (pe_c c__law_rows hr (by decide) (by rfl) (pa_cons (pv 2) pa_nil)) (nomark _))))))))))), ?_⟩
  walk_at "rds"
  intro p dx hp hdx hne
  refine ⟨p, dx, rfl, upd_same, fun H1 n an kp hn han se1 => ⟨rfl, ?_⟩⟩
  have s1 : Same H H1 := Same.made hp hdx kp
  walk_at "rds"
  intro M hM
  have sM : Same H1 (upd H1 M (.dK [])) := same_upd hM
  have hMM : upd H1 M (.dK []) M = some (.dK (mdD [])) := upd_same
  have sMk : Same H (upd (upd H dx (.own p)) p (.ins C_Store dx [])) := (same_upd hdx).trans (same_upd (by rw [upd_ne hne.symm]; exact hp))
  have l0 : LS1 C_Store H (upd H1 M (.dK [])) p n an M [] [] :=
    { sm := s1.trans sM, hn := same_none sMk hn, han := same_none sMk han, hM := same_none s1 hM
      st := se1.on sM, md := ⟨hMM, fun _ m => nomatch m⟩, d7 := ne_of_none se1.ow hM, d8 := ne_of_none se1.va hM }
  generalize upd H1 M (.dK []) = H2 at l0
  clear s1 sM hMM sMk se1 hn han hM kp hp hdx hne
  walk_at "rds"
  refine ifF rfl ?_
  refine ⟨fun σ' H' => ∃ (es : ME) (y3 y4 : Option V), σ' = [some (.ref a), some (.ref p), some (.ref M), y3, y4, none, none, none, none] ∧ LS1 C_Store H H' p n an M (ksOf es) es ∧ Good (ksOf es) 200, ?_, ?_⟩
  · have g0 : Good (ksOf []) 200 := ⟨List.nodup_nil, fun _ m => (nomatch m), Nat.zero_le _⟩
    walk_at "rds"
    refine ⟨a, _, rfl, .inl (l0.sm.seq hS), ?_⟩
    rw [List.length_map]
    walk_at "rds"
    refine ite2 (fun h0 => ?_) (fun _ => ?_)
    · have h0 : (0 : Int) < (ns.length : Int) := of_decide_eq_true h0
      have h0 : 0 < ns.length := by omega
      have g : (ns.map V.int)[0]? = some (.int ns[0]) := by rw [List.getElem?_map, List.getElem?_eq_getElem h0]; rfl
      walk_at "rds"
      refine ⟨a, _, 0, _, rfl, rfl, l0.sm.seq hS, atI_nat (j := 0) g, ?_⟩
      generalize ns[0] = c0
      walk_at "rds"
      refine ite2 (fun _ => ?_) (fun _ => ?_)
      · walk_at "rds"
        refine ⟨a, _, 0, _, rfl, rfl, l0.sm.seq hS, atI_nat (j := 0) g, ?_⟩
        walk_at "rds"
        refine for_it walk_range (Pv := fun i σ' H' => ∃ (es : ME) (y3 y4 : Option V), σ' = [some (.ref a), some (.ref p), some (.ref M), y3, y4, none, none, none, none] ∧ LS1 C_Store H H' p n an M (ksOf es) es ∧ Good (ksOf es) i ∧ ∀ e ∈ es, e.2.2.1 = -2) ⟨[], none, none, rfl, l0, ⟨List.nodup_nil, fun _ m => (nomatch m), Nat.zero_le _⟩, fun _ m => nomatch m⟩ (fun _ _ _ _ _ => trivial) (fun i x σ' Ha Hb hi hp' hy => ?_) (fun σ' Ha hp' => ?_)
        · clear l0
          obtain ⟨es, y3, y4, rfl, l1, g1, al⟩ := hp'
          obtain ⟨rfl, hx⟩ := hy
          obtain rfl : x = V.int (i : Int) := hx.trans (congrArg V.int (Int.zero_add _))
          clear hx
          have hi : i < 200 := by omega
          have lks := ksOf_len es
          have lg1 := g1.len
          obtain ⟨dx3, gx3⟩ := l1.st.ins
          walk_at "rds"
          have tz := tz_all i hi
          refine ⟨PySem.Flt.log2_lt_of (by decide) (Nat.lt_of_lt_of_le (show (i : Int).natAbs < 200 by omega) (by decide +kernel)), ?_⟩
          refine ⟨_, _, rfl, rfl, sz1000 (by have := tz.1; rw [Str.length_append] at this; omega), ?_⟩
          generalize Str.ofString "z" ++ Str.ofString (toString (i : Int)) = zk at tz
          walk_at "rds"
          refine ⟨p, dx3, _, rfl, gx3, rfl, ?_⟩
          walk_at "rds"
          refine ⟨p, n, an, ksOf es, -2, zk, "old", rfl, l1.st, by omega, ?_⟩
          have eP : stPut (ksOf es) (-2) zk "old" = .inr (pA (ksOf es) zk (-2, "old")) := by
            unfold stPut
            cases g2 : gA (ksOf es) zk with
            | none => exact if_neg (by omega)
            | some x =>
              rw [gA_ksOf, Option.map_eq_some_iff] at g2
              obtain ⟨y, gy, rfl⟩ := g2
              exact if_neg (fun z => z (al _ (gA_some gy)))
          rw [eP]
          refine fun Hc bt st' => ?_
          have l2 := l1.store bt st'
          have told : Tx "old" := tx_const (by decide +kernel)
          have g2 := g1.put (k := zk) (v := "old") (-2) tz told
          walk_at "rds"
          intro u hu
          have su := same_upd (o := .tup [.int (-2), .str "old"]) hu
          have l3 := l2.on su
          have eu : upd Hc u (.tup [.int (-2), .str "old"]) u = some (.tup [.int (-2), .str "old"]) := upd_same
          have eu2 : upd Hc u (.tup [(fun i => V.int (-i)) 2, .str "old"]) = upd Hc u (.tup [.int (-2), .str "old"]) := rfl
          try rw [eu2]
          generalize upd Hc u (.tup [V.int (-2), .str "old"]) = H3 at su l3 eu
          walk_at "rds"
          refine ⟨M, _, rfl, DPut.k (k := Sum.inr zk) l3.md.at_ (by rw [md_len]; exact sz1000' (by omega)), ?_⟩
          rw [md_put es zk u (-2) "old"]
          have md3 := l3.md.put (k := zk) eu
          have l4 := l3.model (fun b w e n => by rw [upd_ne n]; exact e) md3
          rw [show pA (ksOf es) zk (-2, "old") = ksOf (pA es zk (u, -2, "old")) from (pA_ksOf es zk (u, -2, "old")).symm] at l4 g2
          exact ⟨pA es zk (u, -2, "old"), _, _, rfl, l4, g2, fun e m => by
            rcases pA_mem m with rfl | ⟨m, _⟩
            · rfl
            · exact al e m⟩
        · obtain ⟨es, y3, y4, rfl, l1, g1, al⟩ := hp'
          exact ⟨es, y3, y4, rfl, l1, g1.mono (by omega)⟩
      · exact ⟨[], none, none, rfl, l0, g0⟩
    · refine ifF rfl ?_
      exact ⟨[], none, none, rfl, l0, g0⟩
  rintro σ' H3 ⟨es, y3, y4, rfl, l1, g1⟩
  clear l0
  have lks := ksOf_len es
  obtain ⟨dx3, gx3⟩ := l1.st.ins
  walk_at "rds"
  refine ⟨p, dx3, _, rfl, gx3, rfl, ?_⟩
  walk_at "rds"
  refine ⟨p, n, an, ksOf es, rfl, l1.st, fun H4 p2 n2 a2 s4 fp2 fn2 fa2 st4 => ?_⟩
  walk_at "rds"
  have l1' := l1.on s4
  refine ⟨M, es, rfl, l1'.md, by have := g1.len; omega, kOk_es g1.ok, g1.sh, fun kx H5 Kd s5 fKd eKd dKd => ?_⟩
  have ls : LS K C_Store H H5 p n an M p2 n2 a2 Kd (ksOf es) es (ksOf es) kx :=
    { l1 := l1'.on s5, st2 := st4.on s5, kd := eKd, kdt := dKd
      d1 := ne_of_none l1.st.ow fn2, d2 := ne_of_none l1.st.ow fa2, d3 := ne_of_none l1.st.va fn2, d4 := ne_of_none l1.st.va fa2
      d9 := ne_of_none l1.md.1 fn2, d10 := ne_of_none l1.md.1 fa2 }
  clear l1 l1' gx3 st4 eKd dKd s4 s5 fp2 fn2 fa2 fKd
  walk_at "rds"
  refine ⟨a, _, rfl, .inl (ls.l1.sm.seq hS), ?_⟩
  rw [List.length_map]
  walk_at "rds"
  refine for_it walk_range (Pv := fun i σ' H' => ∃ p2 n2 a2 Kd es ks2 kx y3 y4 y7 y8, σ' = [some (.ref a), some (.ref p), some (.ref M), y3, y4, some (.ref p2), some (.ref Kd), y7, y8] ∧ LS K C_Store H H' p n an M p2 n2 a2 Kd (ksOf es) es ks2 kx ∧ Good (ksOf es) (200 + i) ∧ Good ks2 (200 + i)) ⟨p2, n2, a2, Kd, es, ksOf es, kx, y3, y4, none, none, rfl, ls, g1, g1⟩ (fun _ _ _ _ _ => trivial) (fun i x σ' Ha Hb hi hp' hy => ?_) (fun σ' Ha hp' => ?_)
  · clear ls lks g1
    obtain ⟨p2, n2, a2, Kd, es, ks2, kx, y3, y4, y7, y8, rfl, ls, g1, g2⟩ := hp'
    obtain ⟨rfl, hx⟩ := hy
    obtain rfl : x = V.int (i : Int) := hx.trans (congrArg V.int (Int.zero_add _))
    clear hx
    have hi : i < ns.length := by omega
    have lks := ksOf_len es
    have lg1 := g1.len
    have lg2 := g2.len
    have g : (ns.map V.int)[i]? = some (.int ns[i]) := by rw [List.getElem?_map, List.getElem?_eq_getElem hi]; rfl
    generalize ns[i] = ci at g
    walk_at "rds"
    refine ⟨a, _, i, _, rfl, rfl, ls.l1.sm.seq hS, atI_nat g, ?_⟩
    walk_at "rds"
    refine ⟨ci, (i : Int), rfl, by omega, by omega, fun H6 t o s6 et oo => ?_⟩
    have ls := ls.on s6
    walk_at "rds"
    refine ⟨M, t, es, o, rfl, ls.l1.md, kOk_es g1.ok, by omega, et, oo, fun H7 r es' k7 md7 ek er => ?_⟩
    have et7 := k7 _ _ et (ne_of et ls.l1.md.1 (by intro z; cases z))
    have ls := ls.model k7 md7
    walk_at "rds"
    refine ⟨p, n, an, t, ksOf es, o, rfl, ls.l1.st, g1.ok, by omega, et7, fun H8 r2 b8 st8 er2 => ?_⟩
    have tp8 : Tp H7 H8 := fun a xs e => b8 _ _ (ne_of e ls.l1.st.ow (by intro z; cases z)) (ne_of e ls.l1.st.va (by intro z; cases z)) e
    have er8 := tp8 _ _ er
    have et8 := tp8 _ _ et7
    have ls := ls.store b8 st8
    have g1' := g1.op oo
    rw [← ek] at ls g1'
    clear st8 md7
    obtain ⟨t1, t2⟩ := stOp_tx g1 (o := o)
    generalize (stOp (ksOf es) o).1 = res at er8 er2 t1 t2
    walk_at "rds"
    have dres : ∀ x, H8 x = some (.tup [.str res.1, .str res.2]) → Dt K H8 none (.ref x) (.tuple [.str res.1, .str res.2]) := fun x e => .tup (.inl e) (.cons (.str _ (Nat.le_trans t1.1 (by decide))) (.cons (.str _ (Nat.le_trans t2.1 (by decide))) .nil))
    have shr := shpL (Ly.mono (ly_tup (k := 0) (ly_cons (ly_str t1.2) (ly_cons (ly_str t2.2) ly_nil))) (by decide))
    refine ⟨_, _, Dt.dp _ _ (dres _ er2), Dt.dp _ _ (dres _ er8), shr.1, shr.1, ?_⟩
    rw [shr.2]
    refine ⟨_, rfl, ?_⟩
    refine ifF rfl ?_
    walk_at "rds"
    refine ⟨t, _, 2, _, rfl, rfl, SqT.of et8, atI_nat (j := 2) rfl, ?_⟩
    walk_at "rds"
    have lk := oo.k.1
    refine ⟨sz1000 (by omega), ?_⟩
    have lz : (cutS o.k none (some (1 + (i : Int) % 3))).length ≤ 1000 := Nat.le_trans (cutS_length _ _ _) lk
    have lg3 := g1'.len
    have lks' := ksOf_len es'
    walk_at "rds"
    refine ⟨p, n, an, M, es', _, rfl, ls.l1.st, ls.l1.md, by omega, kOk_es g1'.ok, g1'.sh, lz, fun H9 s9 => ?_⟩
    have ls := ls.on s9
    walk_at "rds"
    obtain ⟨dx2, gx2⟩ := ls.st2.ins
    walk_at "rds"
    refine ⟨p2, dx2, _, rfl, gx2, rfl, ?_⟩
    walk_at "rds"
    refine ⟨p2, n2, a2, ks2, rfl, ls.st2, by omega, g2.ok, g2.sh, fun xs H10 r3 s10 f10 e10 d10 => ?_⟩
    have ls := ls.on s10
    walk_at "rds"
    obtain ⟨sh1, sh2⟩ := rows_sh g2.ok g2.sh
    refine ⟨_, _, .lst (.of e10) (DtAll.dp _ _ d10), .lst (.of ls.kd) (DtAll.dp _ _ ls.kdt), sh1, sh1, ?_⟩
    rw [sh2]
    refine ⟨_, rfl, ?_⟩
    refine ifF rfl ?_
    walk_at "rds"
    refine ite2 (fun _ => ?_) (fun _ => ?_)
    · obtain ⟨dx3, gx3⟩ := ls.l1.st.ins
      walk_at "rds"
      refine ⟨p, dx3, _, rfl, gx3, rfl, ?_⟩
      walk_at "rds"
      have l1 := ls.l1
      refine ⟨p, n, an, ksOf es', rfl, l1.st, fun H4 p2 n2 a2 s4 fp2 fn2 fa2 st4 => ?_⟩
      walk_at "rds"
      have l1' := l1.on s4
      refine ⟨M, es', rfl, l1'.md, by omega, kOk_es g1'.ok, g1'.sh, fun kx H5 Kd s5 fKd eKd dKd => ?_⟩
      exact ⟨p2, n2, a2, Kd, es', ksOf es', kx, _, _, _, _, rfl, { l1 := l1'.on s5, st2 := st4.on s5, kd := eKd, kdt := dKd
                                                                   d1 := ne_of_none l1.st.ow fn2, d2 := ne_of_none l1.st.ow fa2, d3 := ne_of_none l1.st.va fn2, d4 := ne_of_none l1.st.va fa2
                                                                   d9 := ne_of_none l1.md.1 fn2, d10 := ne_of_none l1.md.1 fa2 }, g1'.mono (by omega), g1'.mono (by omega)⟩
    · exact ⟨p2, n2, a2, Kd, es', ks2, kx, _, _, _, _, rfl, ls, g1'.mono (by omega), g2.mono (by omega)⟩
  · obtain ⟨p2, n2, a2, Kd, es, ks2, kx, y3, y4, y7, y8, rfl, ls, g1, g2⟩ := hp'
    have lg1 := g1.len
    have lks := ksOf_len es
    obtain ⟨dx3, gx3⟩ := ls.l1.st.ins
    obtain ⟨sh1, sh2⟩ := rows_sh g1.ok g1.sh
    walk_at "rds"
    refine ⟨p, dx3, _, rfl, gx3, rfl, ?_⟩
    walk_at "rds"
    refine ⟨p, n, an, ksOf es, rfl, ls.l1.st, by omega, g1.ok, g1.sh, fun xs1 H1 r1 s1 f1 e1 d1 => ?_⟩
    walk_at "rds"
    refine ⟨M, es, rfl, ls.l1.md.on s1, by omega, kOk_es g1.ok, g1.sh, fun xs2 H2 r2 s2 f2 e2 d2 => ?_⟩
    refine ⟨_, _, .lst (.of (s2 _ _ e1)) (DtAll.dp _ _ (d1.on s2)), .lst (.of e2) (DtAll.dp _ _ d2), sh1, sh1, ?_⟩
    rw [sh2]
    exact q _
end

theorem fin {C_Store : Addr} {C_Refused : Addr} {P : Program} {w : World} {K : PySem.W.Frag} {mg : Str → Option Value} {fa : Addr} (hfa : mg "law" = some (.ref fa)) (T : Txt K mg C_Store C_Refused) :
    ∃ fd : FuncData, (∀ (s : Shared) (u : Value), BindsTo s fd ⟨[u], []⟩ [("script", u)]) ∧ ∀ base : Heap, K.In base → base.Ns mainGlobals mg → FnOk P w K mg base L2.CX0 9 fa fd ["script"] (spLaw K) := by
  obtain ⟨f, fd, F, hm, b⟩ := T.d_law.ex
  cases hfa.symm.trans hm
  refine ⟨fd, fun s u => ?_, fun base _ _ => ok_law F T⟩
  obtain ⟨oc, od, kV, doc, pm, an, cdv, ct, osl, rfl, l, _⟩ := F.ex
  exact .of_eq rfl

theorem all_mk {K : PySem.W.Frag} {h : Heap} {mg : Str → Option Value} (X : K.In h) (G : h.Ns mainGlobals mg)
    {f__law_word : Addr} {od__law_word an__law_word : Option Addr} {sl__law_word : Array (Option Value)} {oc__law_word kV__law_word dc__law_word pm__law_word cd__law_word ct__law_word : Value}
    {f__law_key : Addr} {od__law_key an__law_key : Option Addr} {sl__law_key : Array (Option Value)} {oc__law_key kV__law_key dc__law_key pm__law_key cd__law_key ct__law_key : Value}
    {f__law_value : Addr} {od__law_value an__law_value : Option Addr} {sl__law_value : Array (Option Value)} {oc__law_value kV__law_value dc__law_value pm__law_value cd__law_value ct__law_value : Value}
    {f__law_rich : Addr} {od__law_rich an__law_rich : Option Addr} {sl__law_rich : Array (Option Value)} {oc__law_rich kV__law_rich dc__law_rich pm__law_rich cd__law_rich ct__law_rich : Value}
    {f__law_op : Addr} {od__law_op an__law_op : Option Addr} {sl__law_op : Array (Option Value)} {oc__law_op kV__law_op dc__law_op pm__law_op cd__law_op ct__law_op : Value}
    {f__law_call : Addr} {od__law_call an__law_call : Option Addr} {sl__law_call : Array (Option Value)} {oc__law_call kV__law_call dc__law_call pm__law_call cd__law_call ct__law_call : Value}
    {f__law_due : Addr} {od__law_due an__law_due : Option Addr} {sl__law_due : Array (Option Value)} {oc__law_due kV__law_due dc__law_due pm__law_due cd__law_due ct__law_due : Value}
    {f__law_rows : Addr} {od__law_rows an__law_rows : Option Addr} {sl__law_rows : Array (Option Value)} {oc__law_rows kV__law_rows dc__law_rows pm__law_rows cd__law_rows ct__law_rows : Value}
    {f__law_same : Addr} {od__law_same an__law_same : Option Addr} {sl__law_same : Array (Option Value)} {oc__law_same kV__law_same dc__law_same pm__law_same cd__law_same ct__law_same : Value}
    {f_law : Addr} {od_law an_law : Option Addr} {sl_law : Array (Option Value)} {oc_law kV_law dc_law pm_law cd_law ct_law : Value}
    {C_Store : Addr}
    {f_Store____init__ : Addr} {od_Store____init__ an_Store____init__ : Option Addr} {sl_Store____init__ : Array (Option Value)} {oc_Store____init__ kV_Store____init__ dc_Store____init__ pm_Store____init__ cd_Store____init__ ct_Store____init__ : Value}
    {f_Store__put : Addr} {od_Store__put an_Store__put : Option Addr} {sl_Store__put : Array (Option Value)} {oc_Store__put kV_Store__put dc_Store__put pm_Store__put cd_Store__put ct_Store__put : Value}
    {f_Store__read : Addr} {od_Store__read an_Store__read : Option Addr} {sl_Store__read : Array (Option Value)} {oc_Store__read kV_Store__read dc_Store__read pm_Store__read cd_Store__read ct_Store__read : Value}
    {f_Store__drop : Addr} {od_Store__drop an_Store__drop : Option Addr} {sl_Store__drop : Array (Option Value)} {oc_Store__drop kV_Store__drop dc_Store__drop pm_Store__drop cd_Store__drop ct_Store__drop : Value}
    {f_Store__swap : Addr} {od_Store__swap an_Store__swap : Option Addr} {sl_Store__swap : Array (Option Value)} {oc_Store__swap kV_Store__swap dc_Store__swap pm_Store__swap cd_Store__swap ct_Store__swap : Value}
    {f_Store__matching : Addr} {od_Store__matching an_Store__matching : Option Addr} {sl_Store__matching : Array (Option Value)} {oc_Store__matching kV_Store__matching dc_Store__matching pm_Store__matching cd_Store__matching ct_Store__matching : Value}
    {f_Store__rows : Addr} {od_Store__rows an_Store__rows : Option Addr} {sl_Store__rows : Array (Option Value)} {oc_Store__rows kV_Store__rows dc_Store__rows pm_Store__rows cd_Store__rows ct_Store__rows : Value}
    {f_Store__clone : Addr} {od_Store__clone an_Store__clone : Option Addr} {sl_Store__clone : Array (Option Value)} {oc_Store__clone kV_Store__clone dc_Store__clone pm_Store__clone cd_Store__clone ct_Store__clone : Value}
    {f_Store___check : Addr} {od_Store___check an_Store___check : Option Addr} {sl_Store___check : Array (Option Value)} {oc_Store___check kV_Store___check dc_Store___check pm_Store___check cd_Store___check ct_Store___check : Value}
    {f_Store___check_owner : Addr} {od_Store___check_owner an_Store___check_owner : Option Addr} {sl_Store___check_owner : Array (Option Value)} {oc_Store___check_owner kV_Store___check_owner dc_Store___check_owner pm_Store___check_owner cd_Store___check_owner ct_Store___check_owner : Value}
    {C_Refused : Addr} {nm_Refused qn_Refused : Str} {NN_Refused : Addr} {bs_Refused bm_Refused sub_Refused : List Value} {sn_Refused : List Str} {ab_Refused : Bool} {col_Refused : Option Bool} {dd_Refused : Option Addr} {m0_Refused m1_Refused m2_Refused m3_Refused m5_Refused : Option Value}
    {f_Refused____init__ : Addr} {od_Refused____init__ an_Refused____init__ : Option Addr} {sl_Refused____init__ : Array (Option Value)} {oc_Refused____init__ kV_Refused____init__ dc_Refused____init__ pm_Refused____init__ cd_Refused____init__ ct_Refused____init__ : Value}
    {t_ENTRY_LIMIT : Tok}
    (a__law_word : PySem.W.nsIn K mainGlobals "_law_word" = some (some (.ref f__law_word)))
    (l__law_word : K.lookup f__law_word = some ⟨oc__law_word, od__law_word, .func (PySem.W.fnOf "_law_word" "_law_word" (defArgs s__law_word) (defBody s__law_word) (defScope s__law_word) .none kV__law_word dc__law_word pm__law_word an__law_word cd__law_word ct__law_word), sl__law_word⟩)
    (e__law_word : PySem.W.codeIn K cd__law_word "_law_word" = true)
    (k__law_word : PySem.W.keepIn K (.ref f__law_word) = true)
    (a__law_key : PySem.W.nsIn K mainGlobals "_law_key" = some (some (.ref f__law_key)))
    (l__law_key : K.lookup f__law_key = some ⟨oc__law_key, od__law_key, .func (PySem.W.fnOf "_law_key" "_law_key" (defArgs s__law_key) (defBody s__law_key) (defScope s__law_key) .none kV__law_key dc__law_key pm__law_key an__law_key cd__law_key ct__law_key), sl__law_key⟩)
    (e__law_key : PySem.W.codeIn K cd__law_key "_law_key" = true)
    (k__law_key : PySem.W.keepIn K (.ref f__law_key) = true)
    (a__law_value : PySem.W.nsIn K mainGlobals "_law_value" = some (some (.ref f__law_value)))
    (l__law_value : K.lookup f__law_value = some ⟨oc__law_value, od__law_value, .func (PySem.W.fnOf "_law_value" "_law_value" (defArgs s__law_value) (defBody s__law_value) (defScope s__law_value) .none kV__law_value dc__law_value pm__law_value an__law_value cd__law_value ct__law_value), sl__law_value⟩)
    (e__law_value : PySem.W.codeIn K cd__law_value "_law_value" = true)
    (k__law_value : PySem.W.keepIn K (.ref f__law_value) = true)
    (a__law_rich : PySem.W.nsIn K mainGlobals "_law_rich" = some (some (.ref f__law_rich)))
    (l__law_rich : K.lookup f__law_rich = some ⟨oc__law_rich, od__law_rich, .func (PySem.W.fnOf "_law_rich" "_law_rich" (defArgs s__law_rich) (defBody s__law_rich) (defScope s__law_rich) .none kV__law_rich dc__law_rich pm__law_rich an__law_rich cd__law_rich ct__law_rich), sl__law_rich⟩)
    (e__law_rich : PySem.W.codeIn K cd__law_rich "_law_rich" = true)
    (k__law_rich : PySem.W.keepIn K (.ref f__law_rich) = true)
    (a__law_op : PySem.W.nsIn K mainGlobals "_law_op" = some (some (.ref f__law_op)))
    (l__law_op : K.lookup f__law_op = some ⟨oc__law_op, od__law_op, .func (PySem.W.fnOf "_law_op" "_law_op" (defArgs s__law_op) (defBody s__law_op) (defScope s__law_op) .none kV__law_op dc__law_op pm__law_op an__law_op cd__law_op ct__law_op), sl__law_op⟩)
    (e__law_op : PySem.W.codeIn K cd__law_op "_law_op" = true)
    (k__law_op : PySem.W.keepIn K (.ref f__law_op) = true)
    (a__law_call : PySem.W.nsIn K mainGlobals "_law_call" = some (some (.ref f__law_call)))
    (l__law_call : K.lookup f__law_call = some ⟨oc__law_call, od__law_call, .func (PySem.W.fnOf "_law_call" "_law_call" (defArgs s__law_call) (defBody s__law_call) (defScope s__law_call) .none kV__law_call dc__law_call pm__law_call an__law_call cd__law_call ct__law_call), sl__law_call⟩)
    (e__law_call : PySem.W.codeIn K cd__law_call "_law_call" = true)
    (k__law_call : PySem.W.keepIn K (.ref f__law_call) = true)
    (a__law_due : PySem.W.nsIn K mainGlobals "_law_due" = some (some (.ref f__law_due)))
    (l__law_due : K.lookup f__law_due = some ⟨oc__law_due, od__law_due, .func (PySem.W.fnOf "_law_due" "_law_due" (defArgs s__law_due) (defBody s__law_due) (defScope s__law_due) .none kV__law_due dc__law_due pm__law_due an__law_due cd__law_due ct__law_due), sl__law_due⟩)
    (e__law_due : PySem.W.codeIn K cd__law_due "_law_due" = true)
    (k__law_due : PySem.W.keepIn K (.ref f__law_due) = true)
    (a__law_rows : PySem.W.nsIn K mainGlobals "_law_rows" = some (some (.ref f__law_rows)))
    (l__law_rows : K.lookup f__law_rows = some ⟨oc__law_rows, od__law_rows, .func (PySem.W.fnOf "_law_rows" "_law_rows" (defArgs s__law_rows) (defBody s__law_rows) (defScope s__law_rows) .none kV__law_rows dc__law_rows pm__law_rows an__law_rows cd__law_rows ct__law_rows), sl__law_rows⟩)
    (e__law_rows : PySem.W.codeIn K cd__law_rows "_law_rows" = true)
    (k__law_rows : PySem.W.keepIn K (.ref f__law_rows) = true)
    (a__law_same : PySem.W.nsIn K mainGlobals "_law_same" = some (some (.ref f__law_same)))
    (l__law_same : K.lookup f__law_same = some ⟨oc__law_same, od__law_same, .func (PySem.W.fnOf "_law_same" "_law_same" (defArgs s__law_same) (defBody s__law_same) (defScope s__law_same) .none kV__law_same dc__law_same pm__law_same an__law_same cd__law_same ct__law_same), sl__law_same⟩)
    (e__law_same : PySem.W.codeIn K cd__law_same "_law_same" = true)
    (k__law_same : PySem.W.keepIn K (.ref f__law_same) = true)
    (a_law : PySem.W.nsIn K mainGlobals "law" = some (some (.ref f_law)))
    (l_law : K.lookup f_law = some ⟨oc_law, od_law, .func (PySem.W.fnOf "law" "law" (defArgs s_law) (defBody s_law) (defScope s_law) .none kV_law dc_law pm_law an_law cd_law ct_law), sl_law⟩)
    (e_law : PySem.W.codeIn K cd_law "law" = true)
    (k_law : PySem.W.keepIn K (.ref f_law) = true)
    (ac_Store : PySem.W.nsIn K mainGlobals "Store" = some (some (.ref C_Store)))
    (pg_Store : PySem.W.plainGet K C_Store Str.empty = true)
    (hd_Store : PySem.W.hasDictIn K C_Store = true)
    (po_Store : PySem.W.plainOver K C_Store = true)
    (sa_Store : PySem.W.findIn K (.ref C_Store) "__setattr__" = some (some (.builtin "object.__setattr__")))
    (mk_Store : PySem.W.makesIn K C_Store = true)
    (kc_Store : PySem.W.keepIn K (.ref C_Store) = true)
    (na_Store__owners : PySem.W.findIn K (.ref C_Store) "_owners" = some none)
    (na_Store__values : PySem.W.findIn K (.ref C_Store) "_values" = some none)
    (a_Store____init__ : PySem.W.findIn K (.ref C_Store) "__init__" = some (some (.ref f_Store____init__)))
    (i_Store____init__ : PySem.W.isFn K (.ref f_Store____init__) = true)
    (l_Store____init__ : K.lookup f_Store____init__ = some ⟨oc_Store____init__, od_Store____init__, .func (PySem.W.fnOf "__init__" "Store.__init__" (defArgs s_Store____init__) (defBody s_Store____init__) (defScope s_Store____init__) .none kV_Store____init__ dc_Store____init__ pm_Store____init__ an_Store____init__ cd_Store____init__ ct_Store____init__), sl_Store____init__⟩)
    (e_Store____init__ : PySem.W.codeIn K cd_Store____init__ "Store.__init__" = true)
    (k_Store____init__ : PySem.W.keepIn K (.ref f_Store____init__) = true)
    (a_Store__put : PySem.W.findIn K (.ref C_Store) "put" = some (some (.ref f_Store__put)))
    (i_Store__put : PySem.W.isFn K (.ref f_Store__put) = true)
    (l_Store__put : K.lookup f_Store__put = some ⟨oc_Store__put, od_Store__put, .func (PySem.W.fnOf "put" "Store.put" (defArgs s_Store__put) (defBody s_Store__put) (defScope s_Store__put) .none kV_Store__put dc_Store__put pm_Store__put an_Store__put cd_Store__put ct_Store__put), sl_Store__put⟩)
    (e_Store__put : PySem.W.codeIn K cd_Store__put "Store.put" = true)
    (k_Store__put : PySem.W.keepIn K (.ref f_Store__put) = true)
    (a_Store__read : PySem.W.findIn K (.ref C_Store) "read" = some (some (.ref f_Store__read)))
    (i_Store__read : PySem.W.isFn K (.ref f_Store__read) = true)
    (l_Store__read : K.lookup f_Store__read = some ⟨oc_Store__read, od_Store__read, .func (PySem.W.fnOf "read" "Store.read" (defArgs s_Store__read) (defBody s_Store__read) (defScope s_Store__read) .none kV_Store__read dc_Store__read pm_Store__read an_Store__read cd_Store__read ct_Store__read), sl_Store__read⟩)
    (e_Store__read : PySem.W.codeIn K cd_Store__read "Store.read" = true)
    (k_Store__read : PySem.W.keepIn K (.ref f_Store__read) = true)
    (a_Store__drop : PySem.W.findIn K (.ref C_Store) "drop" = some (some (.ref f_Store__drop)))
    (i_Store__drop : PySem.W.isFn K (.ref f_Store__drop) = true)
    (l_Store__drop : K.lookup f_Store__drop = some ⟨oc_Store__drop, od_Store__drop, .func (PySem.W.fnOf "drop" "Store.drop" (defArgs s_Store__drop) (defBody s_Store__drop) (defScope s_Store__drop) .none kV_Store__drop dc_Store__drop pm_Store__drop an_Store__drop cd_Store__drop ct_Store__drop), sl_Store__drop⟩)
    (e_Store__drop : PySem.W.codeIn K cd_Store__drop "Store.drop" = true)
    (k_Store__drop : PySem.W.keepIn K (.ref f_Store__drop) = true)
    (a_Store__swap : PySem.W.findIn K (.ref C_Store) "swap" = some (some (.ref f_Store__swap)))
    (i_Store__swap : PySem.W.isFn K (.ref f_Store__swap) = true)
    (l_Store__swap : K.lookup f_Store__swap = some ⟨oc_Store__swap, od_Store__swap, .func (PySem.W.fnOf "swap" "Store.swap" (defArgs s_Store__swap) (defBody s_Store__swap) (defScope s_Store__swap) .none kV_Store__swap dc_Store__swap pm_Store__swap an_Store__swap cd_Store__swap ct_Store__swap), sl_Store__swap⟩)
    (e_Store__swap : PySem.W.codeIn K cd_Store__swap "Store.swap" = true)
    (k_Store__swap : PySem.W.keepIn K (.ref f_Store__swap) = true)
    (a_Store__matching : PySem.W.findIn K (.ref C_Store) "matching" = some (some (.ref f_Store__matching)))
    (i_Store__matching : PySem.W.isFn K (.ref f_Store__matching) = true)
    (l_Store__matching : K.lookup f_Store__matching = some ⟨oc_Store__matching, od_Store__matching, .func (PySem.W.fnOf "matching" "Store.matching" (defArgs s_Store__matching) (defBody s_Store__matching) (defScope s_Store__matching) .none kV_Store__matching dc_Store__matching pm_Store__matching an_Store__matching cd_Store__matching ct_Store__matching), sl_Store__matching⟩)
    (e_Store__matching : PySem.W.codeIn K cd_Store__matching "Store.matching" = true)
    (k_Store__matching : PySem.W.keepIn K (.ref f_Store__matching) = true)
    (a_Store__rows : PySem.W.findIn K (.ref C_Store) "rows" = some (some (.ref f_Store__rows)))
    (i_Store__rows : PySem.W.isFn K (.ref f_Store__rows) = true)
    (l_Store__rows : K.lookup f_Store__rows = some ⟨oc_Store__rows, od_Store__rows, .func (PySem.W.fnOf "rows" "Store.rows" (defArgs s_Store__rows) (defBody s_Store__rows) (defScope s_Store__rows) .none kV_Store__rows dc_Store__rows pm_Store__rows an_Store__rows cd_Store__rows ct_Store__rows), sl_Store__rows⟩)
    (e_Store__rows : PySem.W.codeIn K cd_Store__rows "Store.rows" = true)
    (k_Store__rows : PySem.W.keepIn K (.ref f_Store__rows) = true)
    (a_Store__clone : PySem.W.findIn K (.ref C_Store) "clone" = some (some (.ref f_Store__clone)))
    (i_Store__clone : PySem.W.isFn K (.ref f_Store__clone) = true)
    (l_Store__clone : K.lookup f_Store__clone = some ⟨oc_Store__clone, od_Store__clone, .func (PySem.W.fnOf "clone" "Store.clone" (defArgs s_Store__clone) (defBody s_Store__clone) (defScope s_Store__clone) .none kV_Store__clone dc_Store__clone pm_Store__clone an_Store__clone cd_Store__clone ct_Store__clone), sl_Store__clone⟩)
    (e_Store__clone : PySem.W.codeIn K cd_Store__clone "Store.clone" = true)
    (k_Store__clone : PySem.W.keepIn K (.ref f_Store__clone) = true)
    (a_Store___check : PySem.W.findIn K (.ref C_Store) "_check" = some (some (.ref f_Store___check)))
    (i_Store___check : PySem.W.isFn K (.ref f_Store___check) = true)
    (l_Store___check : K.lookup f_Store___check = some ⟨oc_Store___check, od_Store___check, .func (PySem.W.fnOf "_check" "Store._check" (defArgs s_Store___check) (defBody s_Store___check) (defScope s_Store___check) .none kV_Store___check dc_Store___check pm_Store___check an_Store___check cd_Store___check ct_Store___check), sl_Store___check⟩)
    (e_Store___check : PySem.W.codeIn K cd_Store___check "Store._check" = true)
    (k_Store___check : PySem.W.keepIn K (.ref f_Store___check) = true)
    (a_Store___check_owner : PySem.W.findIn K (.ref C_Store) "_check_owner" = some (some (.ref f_Store___check_owner)))
    (i_Store___check_owner : PySem.W.isFn K (.ref f_Store___check_owner) = true)
    (l_Store___check_owner : K.lookup f_Store___check_owner = some ⟨oc_Store___check_owner, od_Store___check_owner, .func (PySem.W.fnOf "_check_owner" "Store._check_owner" (defArgs s_Store___check_owner) (defBody s_Store___check_owner) (defScope s_Store___check_owner) .none kV_Store___check_owner dc_Store___check_owner pm_Store___check_owner an_Store___check_owner cd_Store___check_owner ct_Store___check_owner), sl_Store___check_owner⟩)
    (e_Store___check_owner : PySem.W.codeIn K cd_Store___check_owner "Store._check_owner" = true)
    (k_Store___check_owner : PySem.W.keepIn K (.ref f_Store___check_owner) = true)
    (xa_Refused : PySem.W.nsIn K mainGlobals "Refused" = some (some (.ref C_Refused)))
    (xl_Refused : K.lookup C_Refused = some (excClassObj nm_Refused qn_Refused C_Refused NN_Refused bs_Refused bm_Refused true sn_Refused sub_Refused ab_Refused col_Refused dd_Refused m0_Refused m1_Refused m2_Refused m3_Refused m5_Refused "ValueError.__new__"))
    (xr_Refused : PySem.HandSPX.refsVE bm_Refused = true)
    (xs_Refused : PySem.W.findIn K (.ref C_Refused) "__setattr__" = some (some (.builtin "object.__setattr__")))
    (xk_Refused : PySem.W.keepIn K (.ref C_Refused) = true)
    (xb_Refused : PySem.W.subIn K (.ref C_Refused) (.type "BaseException") = some true)
    (xt_Refused : PySem.W.typeIn K (.ref C_Refused) = some (.type "type"))
    (xh_Refused : PySem.W.hasDictIn K C_Refused = true)
    (xg_Refused : PySem.W.findIn K (.ref C_Refused) "__getattribute__" = some (some (.builtin "BaseException.__getattribute__")))
    (xq_Refused : PySem.W.findIn K (.ref C_Refused) "__getattr__" = some none)
    (xn_Refused_reason : PySem.W.findIn K (.ref C_Refused) "reason" = some none)
    (a_Refused____init__ : PySem.W.findIn K (.ref C_Refused) "__init__" = some (some (.ref f_Refused____init__)))
    (ty_Refused____init__ : PySem.W.typeIn K (.ref f_Refused____init__) = some (.type "function"))
    (l_Refused____init__ : K.lookup f_Refused____init__ = some ⟨oc_Refused____init__, od_Refused____init__, .func (PySem.W.fnOf "__init__" "Refused.__init__" (defArgs s_Refused____init__) (defBody s_Refused____init__) (defScope s_Refused____init__) .none kV_Refused____init__ dc_Refused____init__ pm_Refused____init__ an_Refused____init__ cd_Refused____init__ ct_Refused____init__), sl_Refused____init__⟩)
    (e_Refused____init__ : PySem.W.codeIn K cd_Refused____init__ "Refused.__init__" = true)
    (k_Refused____init__ : PySem.W.keepIn K (.ref f_Refused____init__) = true)
    (u_Refused_Refused : PySem.W.subIn K (.ref C_Refused) (.ref C_Refused) = some true)
    (a_ENTRY_LIMIT : PySem.W.nsIn K mainGlobals "ENTRY_LIMIT" = some (some (.int 200 t_ENTRY_LIMIT)))
    (z_dict : PySem.W.nsIn K mainGlobals "dict" = some none)
    (z_int : PySem.W.nsIn K mainGlobals "int" = some none)
    (z_isinstance : PySem.W.nsIn K mainGlobals "isinstance" = some none)
    (z_len : PySem.W.nsIn K mainGlobals "len" = some none)
    (z_list : PySem.W.nsIn K mainGlobals "list" = some none)
    (z_range : PySem.W.nsIn K mainGlobals "range" = some none)
    (z_sorted : PySem.W.nsIn K mainGlobals "sorted" = some none)
    (z_str : PySem.W.nsIn K mainGlobals "str" = some none) : Txt K mg C_Store C_Refused :=
  { d__law_word := ⟨_, _, (fun_mk l__law_word e__law_word k__law_word), PySem.W.mg_of X G a__law_word, ((fun_mk (st := s__law_word) l__law_word e__law_word k__law_word).binds (ps := ["size", "chars", "seed", "step"]) fun _ _ _ _ _ _ us hl => match us, hl with | [_, _, _, _], _ => rfl)⟩,
    d__law_key := ⟨_, _, (fun_mk l__law_key e__law_key k__law_key), PySem.W.mg_of X G a__law_key, ((fun_mk (st := s__law_key) l__law_key e__law_key k__law_key).binds (ps := ["cell"]) fun _ _ _ _ _ _ us hl => match us, hl with | [_], _ => rfl)⟩,
    d__law_value := ⟨_, _, (fun_mk l__law_value e__law_value k__law_value), PySem.W.mg_of X G a__law_value, ((fun_mk (st := s__law_value) l__law_value e__law_value k__law_value).binds (ps := ["cell"]) fun _ _ _ _ _ _ us hl => match us, hl with | [_], _ => rfl)⟩,
    d__law_rich := ⟨_, _, (fun_mk l__law_rich e__law_rich k__law_rich), PySem.W.mg_of X G a__law_rich, ((fun_mk (st := s__law_rich) l__law_rich e__law_rich k__law_rich).binds (ps := ["cell", "k"]) fun _ _ _ _ _ _ us hl => match us, hl with | [_, _], _ => rfl)⟩,
    d__law_op := ⟨_, _, (fun_mk l__law_op e__law_op k__law_op), PySem.W.mg_of X G a__law_op, ((fun_mk (st := s__law_op) l__law_op e__law_op k__law_op).binds (ps := ["cell", "k"]) fun _ _ _ _ _ _ us hl => match us, hl with | [_, _], _ => rfl)⟩,
    d__law_call := ⟨_, _, (fun_mk l__law_call e__law_call k__law_call), PySem.W.mg_of X G a__law_call, ((fun_mk (st := s__law_call) l__law_call e__law_call k__law_call).binds (ps := ["store", "op"]) fun _ _ _ _ _ _ us hl => match us, hl with | [_, _], _ => rfl)⟩,
    d__law_due := ⟨_, _, (fun_mk l__law_due e__law_due k__law_due), PySem.W.mg_of X G a__law_due, ((fun_mk (st := s__law_due) l__law_due e__law_due k__law_due).binds (ps := ["model", "op"]) fun _ _ _ _ _ _ us hl => match us, hl with | [_, _], _ => rfl)⟩,
    d__law_rows := ⟨_, _, (fun_mk l__law_rows e__law_rows k__law_rows), PySem.W.mg_of X G a__law_rows, ((fun_mk (st := s__law_rows) l__law_rows e__law_rows k__law_rows).binds (ps := ["model"]) fun _ _ _ _ _ _ us hl => match us, hl with | [_], _ => rfl)⟩,
    d__law_same := ⟨_, _, (fun_mk l__law_same e__law_same k__law_same), PySem.W.mg_of X G a__law_same, ((fun_mk (st := s__law_same) l__law_same e__law_same k__law_same).binds (ps := ["store", "model", "prefix"]) fun _ _ _ _ _ _ us hl => match us, hl with | [_, _, _], _ => rfl)⟩,
    d_law := ⟨_, _, (fun_mk l_law e_law k_law), PySem.W.mg_of X G a_law, ((fun_mk (st := s_law) l_law e_law k_law).binds (ps := ["script"]) fun _ _ _ _ _ _ us hl => match us, hl with | [_], _ => rfl)⟩,
    cl_Store := ⟨pg_Store, hd_Store, po_Store, sa_Store⟩,
    g_Store := PySem.W.mg_of X G ac_Store,
    na_Store__owners := na_Store__owners,
    na_Store__values := na_Store__values,
    mk_Store := ⟨_, _, ⟨mk_Store, a_Store____init__, i_Store____init__, kc_Store⟩, (fun_mk l_Store____init__ e_Store____init__ k_Store____init__), ((fun_mk (st := s_Store____init__) l_Store____init__ e_Store____init__ k_Store____init__).binds (ps := ["self"]) fun _ _ _ _ _ _ us hl => match us, hl with | [_], _ => rfl)⟩,
    me_Store__put := ⟨_, _, ⟨a_Store__put, i_Store__put, k_Store__put⟩, (fun_mk l_Store__put e_Store__put k_Store__put), ((fun_mk (st := s_Store__put) l_Store__put e_Store__put k_Store__put).binds (ps := ["self", "client", "key", "value"]) fun _ _ _ _ _ _ us hl => match us, hl with | [_, _, _, _], _ => rfl)⟩,
    me_Store__read := ⟨_, _, ⟨a_Store__read, i_Store__read, k_Store__read⟩, (fun_mk l_Store__read e_Store__read k_Store__read), ((fun_mk (st := s_Store__read) l_Store__read e_Store__read k_Store__read).binds (ps := ["self", "key"]) fun _ _ _ _ _ _ us hl => match us, hl with | [_, _], _ => rfl)⟩,
    me_Store__drop := ⟨_, _, ⟨a_Store__drop, i_Store__drop, k_Store__drop⟩, (fun_mk l_Store__drop e_Store__drop k_Store__drop), ((fun_mk (st := s_Store__drop) l_Store__drop e_Store__drop k_Store__drop).binds (ps := ["self", "client", "key"]) fun _ _ _ _ _ _ us hl => match us, hl with | [_, _, _], _ => rfl)⟩,
    me_Store__swap := ⟨_, _, ⟨a_Store__swap, i_Store__swap, k_Store__swap⟩, (fun_mk l_Store__swap e_Store__swap k_Store__swap), ((fun_mk (st := s_Store__swap) l_Store__swap e_Store__swap k_Store__swap).binds (ps := ["self", "key", "old", "new"]) fun _ _ _ _ _ _ us hl => match us, hl with | [_, _, _, _], _ => rfl)⟩,
    me_Store__matching := ⟨_, _, ⟨a_Store__matching, i_Store__matching, k_Store__matching⟩, (fun_mk l_Store__matching e_Store__matching k_Store__matching), ((fun_mk (st := s_Store__matching) l_Store__matching e_Store__matching k_Store__matching).binds (ps := ["self", "prefix"]) fun _ _ _ _ _ _ us hl => match us, hl with | [_, _], _ => rfl)⟩,
    me_Store__rows := ⟨_, _, ⟨a_Store__rows, i_Store__rows, k_Store__rows⟩, (fun_mk l_Store__rows e_Store__rows k_Store__rows), ((fun_mk (st := s_Store__rows) l_Store__rows e_Store__rows k_Store__rows).binds (ps := ["self"]) fun _ _ _ _ _ _ us hl => match us, hl with | [_], _ => rfl)⟩,
    me_Store__clone := ⟨_, _, ⟨a_Store__clone, i_Store__clone, k_Store__clone⟩, (fun_mk l_Store__clone e_Store__clone k_Store__clone), ((fun_mk (st := s_Store__clone) l_Store__clone e_Store__clone k_Store__clone).binds (ps := ["self"]) fun _ _ _ _ _ _ us hl => match us, hl with | [_], _ => rfl)⟩,
    me_Store___check := ⟨_, _, ⟨a_Store___check, i_Store___check, k_Store___check⟩, (fun_mk l_Store___check e_Store___check k_Store___check), ((fun_mk (st := s_Store___check) l_Store___check e_Store___check k_Store___check).binds (ps := ["self", "key"]) fun _ _ _ _ _ _ us hl => match us, hl with | [_, _], _ => rfl)⟩,
    me_Store___check_owner := ⟨_, _, ⟨a_Store___check_owner, i_Store___check_owner, k_Store___check_owner⟩, (fun_mk l_Store___check_owner e_Store___check_owner k_Store___check_owner), ((fun_mk (st := s_Store___check_owner) l_Store___check_owner e_Store___check_owner k_Store___check_owner).binds (ps := ["self", "client", "key"]) fun _ _ _ _ _ _ us hl => match us, hl with | [_, _, _], _ => rfl)⟩,
    x_Refused := ⟨PySem.W.mg_of X G xa_Refused, ⟨⟨_, _, _, _, _, _, _, _, _, _, _, _, _, _, _, xl_Refused, xr_Refused⟩, xs_Refused, xb_Refused, xt_Refused, xk_Refused⟩, ⟨xg_Refused, xq_Refused, xb_Refused, xh_Refused⟩⟩,
    xn_Refused_reason := xn_Refused_reason,
    ei_Refused := ⟨_, _, a_Refused____init__, ty_Refused____init__, (fun_mk l_Refused____init__ e_Refused____init__ k_Refused____init__), ((fun_mk (st := s_Refused____init__) l_Refused____init__ e_Refused____init__ k_Refused____init__).binds (ps := ["self", "reason"]) fun _ _ _ _ _ _ us hl => match us, hl with | [_, _], _ => rfl)⟩,
    u_Refused_Refused := u_Refused_Refused,
    c_ENTRY_LIMIT := ⟨_, PySem.W.mg_of X G a_ENTRY_LIMIT, _, rfl⟩,
    z_dict := PySem.W.mg_none_of X G z_dict,
    z_int := PySem.W.mg_none_of X G z_int,
    z_isinstance := PySem.W.mg_none_of X G z_isinstance,
    z_len := PySem.W.mg_none_of X G z_len,
    z_list := PySem.W.mg_none_of X G z_list,
    z_range := PySem.W.mg_none_of X G z_range,
    z_sorted := PySem.W.mg_none_of X G z_sorted,
    z_str := PySem.W.mg_none_of X G z_str }
end Law
open PySem PySem.W PyProof.Rows
set_option maxRecDepth 100000 in
set_option maxHeartbeats 0 in
theorem PySem.Challenge.cw_oathledger_k47_store_step_by_step_holds : PySem.Challenge.rw_oathledger_k47_store_step_by_step.Holds := by
  w_on; o_law; k_head; (case hw => w_witness2)
  k_fill
  refine L2.walk_of (l := PySem.Challenge.rw_oathledger_k47_store_step_by_step) (n := 63) (k := 9) (x := "script") (CX := fun _ => L2.CX0) (sp := fun w => Law.spLaw _) rfl (by decide) rfl ⟨rfl, by decide, by decide⟩ (fun w h Y => PySem.W.kIn_of Y) ?F (fun _ _ a ns hl _ hS => ⟨a, ns, rfl, hS, hl, fun _ => rfl⟩) (fun _ _ _ _ _ h => h)
  case F =>
    intro w mg fa h KX G hmg
    refine' Law.fin hmg (Law.all_mk KX G ?a__law_word ?l__law_word ?e__law_word ?k__law_word ?a__law_key ?l__law_key ?e__law_key ?k__law_key ?a__law_value ?l__law_value ?e__law_value ?k__law_value ?a__law_rich ?l__law_rich ?e__law_rich ?k__law_rich ?a__law_op ?l__law_op ?e__law_op ?k__law_op ?a__law_call ?l__law_call ?e__law_call ?k__law_call ?a__law_due ?l__law_due ?e__law_due ?k__law_due ?a__law_rows ?l__law_rows ?e__law_rows ?k__law_rows ?a__law_same ?l__law_same ?e__law_same ?k__law_same ?a_law ?l_law ?e_law ?k_law ?ac_Store ?pg_Store ?hd_Store ?po_Store ?sa_Store ?mk_Store ?kc_Store ?na_Store__owners ?na_Store__values ?a_Store____init__ ?i_Store____init__ ?l_Store____init__ ?e_Store____init__ ?k_Store____init__ ?a_Store__put ?i_Store__put ?l_Store__put ?e_Store__put ?k_Store__put ?a_Store__read ?i_Store__read ?l_Store__read ?e_Store__read ?k_Store__read ?a_Store__drop ?i_Store__drop ?l_Store__drop ?e_Store__drop ?k_Store__drop ?a_Store__swap ?i_Store__swap ?l_Store__swap ?e_Store__swap ?k_Store__swap ?a_Store__matching ?i_Store__matching ?l_Store__matching ?e_Store__matching ?k_Store__matching ?a_Store__rows ?i_Store__rows ?l_Store__rows ?e_Store__rows ?k_Store__rows ?a_Store__clone ?i_Store__clone ?l_Store__clone ?e_Store__clone ?k_Store__clone ?a_Store___check ?i_Store___check ?l_Store___check ?e_Store___check ?k_Store___check ?a_Store___check_owner ?i_Store___check_owner ?l_Store___check_owner ?e_Store___check_owner ?k_Store___check_owner ?xa_Refused ?xl_Refused ?xr_Refused ?xs_Refused ?xk_Refused ?xb_Refused ?xt_Refused ?xh_Refused ?xg_Refused ?xq_Refused ?xn_Refused_reason ?a_Refused____init__ ?ty_Refused____init__ ?l_Refused____init__ ?e_Refused____init__ ?k_Refused____init__ ?u_Refused_Refused ?a_ENTRY_LIMIT ?z_dict ?z_int ?z_isinstance ?z_len ?z_list ?z_range ?z_sorted ?z_str)
    (case a__law_word => k_is)
    (case l__law_word => k_is)
    (case e__law_word => k_is)
    (case k__law_word => k_is)
    (case a__law_key => k_is)
    (case l__law_key => k_is)
    (case e__law_key => k_is)
    (case k__law_key => k_is)
    (case a__law_value => k_is)
    (case l__law_value => k_is)
    (case e__law_value => k_is)
    (case k__law_value => k_is)
    (case a__law_rich => k_is)
    (case l__law_rich => k_is)
    (case e__law_rich => k_is)
    (case k__law_rich => k_is)
    (case a__law_op => k_is)
    (case l__law_op => k_is)
    (case e__law_op => k_is)
    (case k__law_op => k_is)
    (case a__law_call => k_is)
    (case l__law_call => k_is)
    (case e__law_call => k_is)
    (case k__law_call => k_is)
    (case a__law_due => k_is)
    (case l__law_due => k_is)
    (case e__law_due => k_is)
    (case k__law_due => k_is)
    (case a__law_rows => k_is)
    (case l__law_rows => k_is)
    (case e__law_rows => k_is)
    (case k__law_rows => k_is)
    (case a__law_same => k_is)
    (case l__law_same => k_is)
    (case e__law_same => k_is)
    (case k__law_same => k_is)
    (case a_law => k_is)
    (case l_law => k_is)
    (case e_law => k_is)
    (case k_law => k_is)
    (case ac_Store => k_is)
    (case pg_Store => k_is)
    (case hd_Store => k_is)
    (case po_Store => k_is)
    (case sa_Store => k_is)
    (case mk_Store => k_is)
    (case kc_Store => k_is)
    (case na_Store__owners => k_is)
    (case na_Store__values => k_is)
    (case a_Store____init__ => k_is)
    (case i_Store____init__ => k_is)
    (case l_Store____init__ => k_is)
    (case e_Store____init__ => k_is)
    (case k_Store____init__ => k_is)
    (case a_Store__put => k_is)
    (case i_Store__put => k_is)
    (case l_Store__put => k_is)
    (case e_Store__put => k_is)
    (case k_Store__put => k_is)
    (case a_Store__read => k_is)
    (case i_Store__read => k_is)
    (case l_Store__read => k_is)
    (case e_Store__read => k_is)
    (case k_Store__read => k_is)
    (case a_Store__drop => k_is)
    (case i_Store__drop => k_is)
    (case l_Store__drop => k_is)
    (case e_Store__drop => k_is)
    (case k_Store__drop => k_is)
    (case a_Store__swap => k_is)
    (case i_Store__swap => k_is)
    (case l_Store__swap => k_is)
    (case e_Store__swap => k_is)
    (case k_Store__swap => k_is)
    (case a_Store__matching => k_is)
    (case i_Store__matching => k_is)
    (case l_Store__matching => k_is)
    (case e_Store__matching => k_is)
    (case k_Store__matching => k_is)
    (case a_Store__rows => k_is)
    (case i_Store__rows => k_is)
    (case l_Store__rows => k_is)
    (case e_Store__rows => k_is)
    (case k_Store__rows => k_is)
    (case a_Store__clone => k_is)
    (case i_Store__clone => k_is)
    (case l_Store__clone => k_is)
    (case e_Store__clone => k_is)
    (case k_Store__clone => k_is)
    (case a_Store___check => k_is)
    (case i_Store___check => k_is)
    (case l_Store___check => k_is)
    (case e_Store___check => k_is)
    (case k_Store___check => k_is)
    (case a_Store___check_owner => k_is)
    (case i_Store___check_owner => k_is)
    (case l_Store___check_owner => k_is)
    (case e_Store___check_owner => k_is)
    (case k_Store___check_owner => k_is)
    (case xa_Refused => k_is)
    (case xl_Refused => k_is)
    (case xr_Refused => decide +kernel)
    (case xs_Refused => k_is)
    (case xk_Refused => k_is)
    (case xb_Refused => k_is)
    (case xt_Refused => k_is)
    (case xh_Refused => k_is)
    (case xg_Refused => k_is)
    (case xq_Refused => k_is)
    (case xn_Refused_reason => k_is)
    (case a_Refused____init__ => k_is)
    (case ty_Refused____init__ => k_is)
    (case l_Refused____init__ => k_is)
    (case e_Refused____init__ => k_is)
    (case k_Refused____init__ => k_is)
    (case u_Refused_Refused => k_is)
    (case a_ENTRY_LIMIT => k_is)
    (case z_dict => k_is)
    (case z_int => k_is)
    (case z_isinstance => k_is)
    (case z_len => k_is)
    (case z_list => k_is)
    (case z_range => k_is)
    (case z_sorted => k_is)
    (case z_str => k_is)

