import PyProof.Rows.All
import Wide.All
import OpenK.AllK
import Wide.FinOn
import HandS.ForMost
import HandS.Walk
import HandS.Flow
import HandS.Codes
import HandS.IsInst
import HandS.Conv
import HandS.StrMore
import PyProof.MeetsSeq2
import PyProof.DictTable
import HandS.Wide
import HandS.TupAny
import HandS.More
import HandS.Dict
import HandS.ForExc
import HandS.ExcIs
import HandS.ExcField
import HandS.DeepEq
import HandS.TupLe
import HandS.Steps
import HandS.ExcInit
import HandS.SortRule
import HandS.SortKw
import HandS.Keys
import KE.SortKeyHeap
import KE.DataMinMax
import KE.SortData
import HandS.RaiseMore
import HandS.Zip
import HandS.DictSubView
import HandS.Deep
import HandS.Sort
import HandS.SetKeys
import HandS.Strs
import HandS.SetFor
import HandS.DictComp
import HandS.Style
import PySem.Challenge.RW_oathledger_k31_chain_tip_and_path
set_option Elab.async false
set_option linter.all false
set_option maxRecDepth 100000
set_option maxHeartbeats 4000000
namespace Law
open PySem PySem.Spec PyProof.Rows L2
open C8 (Cal Met Mak pe_c pe_mk pe_mt pe_mt0 pe_gc pss_cut tCut)
/-! ### a def of the top, by its name -/
structure DefOk (K : PySem.W.Frag) (mg : Str → Option Value) (x : Str) (st : Stmt) (ps : List Str) : Prop where
  ex : ∃ (f : Addr) (fd : FuncData), L2.Fun K x x st f fd ∧ mg x = some (.ref f) ∧ Binds K fd ps []
section
variable {P : Program} {w : World} {K : PySem.W.Frag} {mg : Str → Option Value} {base : Heap}
/-- a def's promise, by its body -/
theorem cal {x : Str} {st : Stmt} {N ps : List Str} {k : Nat} {sp : Sp} (D : DefOk K mg x st ps) (S : FnScope N ps (defScope st)) (len : ∀ vs H Q E, sp vs H Q E → vs.length = ps.length)
    (hbody : ∀ (f : Addr) (cdv : Value) (A : Around) (outer : List Env) (s : Shared) (H : Hp) (vs : List V) (Q : VK) (E : XK), Room k (A.deeper (envOfC x (defScope st) s.heap.objs.size f cdv)) → sp vs H Q E →
      ∃ t, PSs (cxOf L2.CX0 P w K mg base N x (defScope st) f cdv A outer s H E).nox (defBody st) t ∧ t { nx := fun _ H' => Q .non H', rt := Q } (start N vs) H) : Cal P w K mg base (k + 1) x sp [] := by
  obtain ⟨f, fd, F, hm, b⟩ := D.ex
  exact ⟨f, fd, ps, [], F.ok S len (fun cdv A outer s H vs Q E hr h => hbody f cdv A outer s H vs Q E hr h), hm, F.kp, b, .nil⟩
/-- a call without arguments -/
theorem pe_c0 {X : Cx} {k j : Nat} {x : Str} {sp : Sp} {dvs : List V} {p pos : Pos} (c : Cal X.prog X.w X.K X.mg X.base k x sp dvs) (hr : Room j X.A) (hk : k ≤ j) (hg : Gl X x)
    (hdb : (x == ("__debug__" : Str)) = false := by decide) : PE X (.Call (.Name x p) [] [] pos) (tCall sp dvs L2.E0 tNil) := by
  obtain ⟨f, fd, ps, ds, F, hm, kp, b, d⟩ := c.ex
  exact pe_call0 F (hr.mono hk) hg hm kp b d pass0 hdb
end
/-! ### small things -/
theorem same_upd {H : Hp} {p : Addr} {o : HO} (h : H p = none) : Same H (upd H p o) := fun b x e => by
  rw [upd_ne (ne_of_none e h)]
  exact e
theorem same_mut {H H' : Hp} {p : Addr} {o : HO} (s : Same H H') (h : H p = none) : Same H (upd H' p o) := fun b x e => by
  rw [upd_ne (ne_of_none e h)]
  exact s b x e
theorem sz1000 {n : Nat} (h : n ≤ 100000) : n ≤ sizeLine := Nat.le_trans h (by decide)
theorem sz1000' {n : Nat} (h : n < 100000) : n < sizeLine := Nat.lt_of_lt_of_le h (by decide)
theorem sz1000'' {n : Nat} (h : n ≤ 16777216) : n ≤ sizeLine := by rw [sizeLine_eq]; exact h
theorem sq {K : PySem.W.Frag} {H : Hp} {a : Addr} {xs : List V} (h : H a = some (.lst xs)) : SqL K H a xs := .inl (.inl h)
def spLaw (K : PySem.W.Frag) : Sp := fun vs H Q _ => ∃ (a : Addr) (ns : List Int), vs = [.ref a] ∧ SqL K H a (ns.map V.int) ∧ ns.length ≤ 63 ∧ ∀ H', Q (.bl true) H'
/-! ### the reading, step by step -/
local macro_rules | `(tactic| walk_at "sd") => `(tactic| first
  | omega
  | decide
  | assumption
  | (show _ ∨ _; exact Or.inl ⟨by omega, by omega⟩)
  | (show _ ∨ _; exact Or.inr ⟨by omega, by omega⟩)
  | (show _ ∧ _; exact ⟨by omega, by omega⟩)
  | (show _ ∧ _; exact ⟨by decide, by decide⟩)
  | exact sz1000 (by omega)
  | exact sz1000' (by omega))
local macro_rules | `(tactic| walk_at "sz") => `(tactic| first
  | exact sz1000 (Nat.le_of_ble_eq_true rfl)
  | exact sz1000 (by omega)
  | exact sz1000'' (by omega)
  | assumption)
/-- one step of a reading: a slot, an operator upon numbers, a call upon values -/
local macro_rules | `(tactic| walk_at "rd") => `(tactic| first
  | refine ⟨_, (rfl : (_ : List (Option V))[_]? = some (some _)), ?_⟩
  | refine ⟨_, _, (rfl : (_ : V) = _), (rfl : (_ : V) = _), (by walk_at "sd" : (_ : Prop)), ?_⟩
  | refine ⟨_, _, (rfl : (_ : V) = _), (rfl : (_ : V) = _), ?_⟩
  | refine ⟨_, (rfl : (_ : List V) = _), (by walk_at "sd" : (_ : Prop)), (by walk_at "sd" : (_ : Prop)), ?_⟩
  | refine ⟨_, (rfl : (_ : List V) = _), ?_⟩
  | refine ⟨_, (rfl : (_ : V) = _), ?_⟩
  | refine .inl ⟨_, (rfl : (_ : List V) = _), ?_⟩
  | refine ⟨⟨_, (rfl : (_ : V) = _)⟩, ?_⟩
  | refine ⟨(rfl : scal _ _ = true), ?_⟩
  | refine ⟨(rfl : V.non = V.non), ?_⟩
  | refine ⟨(by walk_at "sz" : (_ ≤ sizeLine)), ?_⟩)
local macro_rules | `(tactic| walk_at "rds") => `(tactic| repeat walk_at "rd")
theorem tyes {σ : L2.St} {H : Hp} {A B : Hp → Prop} (h : A H) : tYes σ H (fun b H3 => if b = true then A H3 else B H3) := by
  show (if true = true then A H else B H)
  rw [if_pos rfl]
  exact h
theorem sum_ones {ys : List Str} (h : ∀ y ∈ ys, y.length = 1) : (ys.map (fun x => x.length)).sum = ys.length := by
  induction ys with
  | nil => rfl
  | cons y r ih =>
    rw [List.map_cons, List.sum_cons, ih (fun z hz => h z (List.mem_cons_of_mem _ hz)), h y List.mem_cons_self, List.length_cons]
    omega
theorem chr_at {z : Str} {i : Int} (h0 : 0 ≤ i) (h1 : i < z.length) : ∃ c, atI z.cps.toList i = some c := by
  obtain ⟨j, rfl⟩ := Int.eq_ofNat_of_zero_le h0
  have hj : j < z.cps.toList.length := by
    rw [Array.length_toList]
    exact Int.ofNat_lt.mp h1
  exact ⟨z.cps.toList[j], atI_nat (List.getElem?_eq_getElem hj)⟩
/-- what an append to a tracked new list leaves -/
theorem lst_app {α : Type} {H : Hp} {D : Addr} {f : α → V} {ys : List α} {y : α} : upd H D (.lst (ys.map f ++ [f y])) D = some (.lst ((ys ++ [y]).map f)) := by
  rw [upd_same, List.map_append]
  rfl
theorem rg40 {n : Nat} (h : n ≤ 100000) : RgC 0 n 40 ((n + 39) / 40) := by
  have e : Builtin.Range.rangeSize 0 (n : Int) 40 = (((n + 39) / 40 : Nat) : Int) := by
    rw [rangeSize_pos (by decide) (by omega)]
    omega
  refine ⟨by decide, by decide, ?_, e⟩
  unfold Builtin.Range.small
  rw [e]
  unfold Builtin.Range.rangeFitsLong
  simp
  omega
theorem isi {K : PySem.W.Frag} {H : Hp} {x : V} {T1 T2 : String} {b : Bool} {Q : VK} (ty : TyX K H x (.type T1)) (e : kitB T1 T2 = some b) (q : Q (.bl b) H) : rIsi K [x, .ty T2] H Q :=
  ⟨x, .ty T2, _, _, b, rfl, .ty _, ty, kit_ty e, q⟩
theorem ifT {c : Bool} {A B : Prop} (hc : c = true) (h : A) : if c = true then A else B := by
  rw [if_pos hc]
  exact h
theorem ifF {c : Bool} {A B : Prop} (hc : c = false) (h : B) : if c = true then A else B := by
  rw [if_neg (by rw [hc]; decide)]
  exact h
local macro_rules | `(tactic| walk_at "isk") => `(tactic| first
  | exact .base (.int _) | exact .base (.str _) | exact .base (.bl _) | exact .base .non
  | exact .base (.lst (by assumption)) | exact .base (.tup (by assumption)) | exact .base (.dK (by assumption)))
/-- isinstance(x, T) with a built-in T; the object's fact stands in the context -/
local macro_rules | `(tactic| walk_at "isi") => `(tactic| first
  | refine ⟨_, .ty _, _, _, true, (rfl : (_ : List V) = _), .ty _, (by walk_at "isk"), kit_ty (by decide +kernel), ?_⟩
  | refine ⟨_, .ty _, _, _, false, (rfl : (_ : List V) = _), .ty _, (by walk_at "isk"), kit_ty (by decide +kernel), ?_⟩)
/-! ### classes of the top -/
structure MethOk (K : PySem.W.Frag) (C : Addr) (m qual : Str) (st : Stmt) (ps : List Str) : Prop where
  ex : ∃ (f : Addr) (fd : FuncData), Meth K C m f ∧ L2.Fun K m qual st f fd ∧ Binds K fd ps []
structure MakOk (K : PySem.W.Frag) (C : Addr) (qual : Str) (st : Stmt) (ps : List Str) : Prop where
  ex : ∃ (f : Addr) (fd : FuncData), Mk K C f ∧ L2.Fun K "__init__" qual st f fd ∧ Binds K fd ps []
section
variable {P : Program} {w : World} {K : PySem.W.Frag} {mg : Str → Option Value} {base : Heap}
theorem met {C : Addr} {m qual : Str} {st : Stmt} {N ps : List Str} {k : Nat} {sp : Sp} (c : Cls K C) (D : MethOk K C m qual st ps) (S : FnScope N ps (defScope st)) (len : ∀ vs H Q E, sp vs H Q E → vs.length = ps.length)
    (hbody : ∀ (f : Addr) (cdv : Value) (A : Around) (outer : List Env) (s : Shared) (H : Hp) (vs : List V) (Q : VK) (E : XK), Room k (A.deeper (envOfC qual (defScope st) s.heap.objs.size f cdv)) → sp vs H Q E →
      ∃ t, PSs (cxOf L2.CX0 P w K mg base N qual (defScope st) f cdv A outer s H E).nox (defBody st) t ∧ t { nx := fun _ H' => Q .non H', rt := Q } (start N vs) H) : Met P w K mg base (k + 1) C m sp [] := by
  obtain ⟨f, fd, M, F, b⟩ := D.ex
  exact ⟨f, fd, ps, [], c, M, F.ok S len (fun cdv A outer s H vs Q E hr h => hbody f cdv A outer s H vs Q E hr h), b, .nil⟩
theorem mak {C : Addr} {x qual : Str} {st : Stmt} {N ps : List Str} {k : Nat} {sp : Sp} (hm : mg x = some (.ref C)) (D : MakOk K C qual st ps) (S : FnScope N ps (defScope st)) (len : ∀ vs H Q E, sp vs H Q E → vs.length = ps.length)
    (hbody : ∀ (f : Addr) (cdv : Value) (A : Around) (outer : List Env) (s : Shared) (H : Hp) (vs : List V) (Q : VK) (E : XK), Room k (A.deeper (envOfC qual (defScope st) s.heap.objs.size f cdv)) → sp vs H Q E →
      ∃ t, PSs (cxOf L2.CX0 P w K mg base N qual (defScope st) f cdv A outer s H E).nox (defBody st) t ∧ t { nx := fun _ H' => Q .non H', rt := Q } (start N vs) H) : Mak P w K mg base (k + 1) x C sp [] := by
  obtain ⟨f, fd, M, F, b⟩ := D.ex
  exact ⟨f, fd, ps, [], M, F.ok S len (fun cdv A outer s H vs Q E hr h => hbody f cdv A outer s H vs Q E hr h), hm, b, .nil⟩
end
/-- a tuple of the top, in the written part -/
def KTup (K : PySem.W.Frag) (a : Addr) (xs : List V) : Prop := ∃ o its n, K.lookup a = some o ∧ o.cls = Value.type "tuple" ∧ o.data = Data.seq its n ∧ its.size ≤ sizeLine ∧ Vals xs its.toList
theorem pe_mk0 {X : Cx} {k j : Nat} {x : Str} {C : Addr} {sp : Sp} {dvs : List V} {p pos : Pos} (c : Mak X.prog X.w X.K X.mg X.base k x C sp dvs) (hr : Room j X.A) (hk : k + 1 ≤ j) (hg : Gl X x)
    (hdb : (x == ("__debug__" : Str)) = false := by decide) : PE X (.Call (.Name x p) [] [] pos) (tMake C sp dvs L2.E0 tNil) := by
  obtain ⟨f, fd, ps, ds, M, F, hm, b, d⟩ := c.ex
  exact pe_make0 M F (hr.mono hk) hg hm b d pass0 hdb
/-! ### rules whose written part is named K (a comprehension's context is another one) -/
section
variable {X : Cx} {K : PySem.W.Frag}
theorem kin (h : X.K = K := by rfl) : OpR X (compareOp .In) (rIn K false) := by subst h; exact op_in_seq
theorem knin (h : X.K = K := by rfl) : OpR X (compareOp .NotIn) (rIn K true) := by subst h; exact op_notIn_seq
theorem kixl (h : X.K = K := by rfl) : IxR X (rIxL K) := by subst h; exact ix_list
theorem kixt (h : X.K = K := by rfl) : IxR X (rIxT K) := by subst h; exact ix_tup
theorem ksll (h : X.K = K := by rfl) : SlR X (rSlL K) := by subst h; exact sl_list
theorem kisi (h : X.K = K := by rfl) : CallR X (.builtin "isinstance") (rIsi K) := by subst h; exact call_isi
theorem kfld {o : Expr} {f : Str} {pos : Pos} {ta : TE} (he : PE X o ta) (hb : attributeBase o f X.env (eval o X.env) = eval o X.env := by rfl) (h : X.K = K := by rfl) : PE X (.Attribute o f pos) (tFld K ta f) := by subst h; exact pe_fld he hb
def rLenK (K : PySem.W.Frag) : List V → Hp → VK → Prop := fun xs H Q => ∃ p ys, xs = [.ref p] ∧ (SqL K H p ys ∨ SqT K H p ys) ∧ Q (.int ys.length) H
theorem klen (h : X.K = K := by rfl) : CallR X (.builtin "len") (rLenK K) := by subst h; exact call_len_seq
end
theorem hu1 {k : Nat} {A : Around} (hr : Room k A) : A.units + 1 < cLine := by have := hr.units; omega
section
variable {X : Cx}
theorem kdin {d : Addr} (h : ∃ es n, KDict X.K X.w d es n) : OpR X (compareOp .In) (fun x y H Q => ∃ (z : Str) (r : Option Value), x = .str z ∧ y = .ref d ∧ PySem.W.nsIn X.K d z = some r ∧ Q (.bl r.isSome) H) := by
  obtain ⟨es, n, D⟩ := h
  exact op_in_kd D
theorem kdnin {d : Addr} (h : ∃ es n, KDict X.K X.w d es n) : OpR X (compareOp .NotIn) (fun x y H Q => ∃ (z : Str) (r : Option Value), x = .str z ∧ y = .ref d ∧ PySem.W.nsIn X.K d z = some r ∧ Q (.bl (!r.isSome)) H) := by
  obtain ⟨es, n, D⟩ := h
  exact op_notIn_kd D
end
theorem kgtup {X : Cx} {K : PySem.W.Frag} {es : List Expr} {k : Nat} {t : TGs} {n : Nat} {pos : Pos} (hc : X.calm = true) (h : PGs X es t)
    (hn : (assignEach es X.env).length = n := by rfl) (hst : (assignEach es X.env).findIdx? (·.1) = none := by rfl) (hK : X.K = K := by rfl) : PG X (.Tuple es k pos) (gTup K n t) := by subst hK; exact pg_tup hc h hn hst
theorem hu65 {A : Around} {k : Nat} (hr : Room k A) : A.units + 65 < cLine := by have := hr.un; omega
theorem keqD {X : Cx} {K : PySem.W.Frag} (hu : X.A.units + 64 < cLine) (h : X.K = K := by rfl) : OpR X (compareOp .Eq) (rEqD K) := by subst h; exact op_eqD hu
theorem kneD {X : Cx} {K : PySem.W.Frag} (hu : X.A.units + 64 < cLine) (h : X.K = K := by rfl) : OpR X (compareOp .NotEq) (rNeD K) := by subst h; exact op_neD hu

/-! ### defs that raise own exceptions -/
theorem kit_own {K : PySem.W.Frag} {B C : Addr} (h1 : PySem.W.subIn K (.ref C) (.type "BaseException") = some true) (h2 : PySem.W.typeIn K (.ref C) = some (.type "type")) (h3 : PySem.W.subIn K (.ref B) (.ref C) = some true) : PySem.W.kitOne K (.ref B) (.ref C) = some true := by
  have h0 : (PySem.W.clsIn K C).isSome = true := by
    have h1 : PySem.W.mroIn K C (.type "BaseException") = some true := h1
    unfold PySem.W.mroIn at h1
    cases e : PySem.W.clsIn K C with
    | some _ => rfl
    | none => rw [e] at h1; cases h1
  unfold PySem.W.kitOne
  split
  · rfl
  · show (if ((PySem.W.clsIn K C).isSome && PySem.W.typeIn K (.ref C) == some (.type "type")) = true then PySem.W.subIn K (.ref B) (.ref C) else none) = some true
    rw [h0, h2, h3]
    rfl
section
variable {X : Cx}
/-- C() of an own exception class without an __init__ of its own -/
theorem pmk_own0 {x : Str} {C : Addr} {bmB : List Value} {B newId initId : String} {p pos : Pos} (F : ExcBaseFacts B newId initId bmB) (q : PySem.W.excIn X.K C bmB newId = true) (gC : X.mg x = some (.ref C)) (kC : PySem.W.keepIn X.K (.ref C) = true) (r : Raises X (.ref C)) (hg : Gl X x)
    (hdb : (x == ("__debug__" : Str)) = false := by decide) : PMk X (.Call (.Name x p) [] [] pos) (fun _ H Q => Q (.ref C) none H) := by
  intro pins s σ H Q I h
  refine wpAny_Call_Name_kw (ld_glob I hg gC ?_ hdb)
  refine PySem.W.callWith_K0 I.kIn kC ?_
  show wpAny _ _ (call (.ref C) []) _ _ _
  obtain ⟨bm, N, nm, qn, bs, hdct, sn, sub, ab, col, dd, k0, k1, k2, k3, k5, mN, hC, hN, hni, T⟩ := exc_obj I.kIn q
  refine wpAny_call_exc_subT F T hC hN hni (fun h' e hm => ?_) (Nat.zero_le _)
  exact mk_of I hm r h (I.hok.gone hm.new)
end
/-- an own exception class over ValueError -/
structure ExOk (K : PySem.W.Frag) (mg : Str → Option Value) (x : Str) (C : Addr) : Prop where
  ex : PySem.W.excIn K C [.type "ValueError", .type "Exception", .type "BaseException", .type "object"] "ValueError.__new__" = true
  g : mg x = some (.ref C)
  kp : PySem.W.keepIn K (.ref C) = true
  bp : PySem.W.subIn K (.ref C) (.type "BaseException") = some true
  tp : PySem.W.typeIn K (.ref C) = some (.type "type")
  hd : PySem.W.hasDictIn K C = true
theorem ExOk.exm {K : PySem.W.Frag} {mg : Str → Option Value} {x : Str} {C : Addr} {cls : Value} {b : Bool} (e : ExOk K mg x C) (h : PySem.W.subIn K cls (.ref C) = some b) : PySem.W.exmOne K cls (.ref C) = some b := PySem.W.exm_ref e.bp e.hd e.tp h
theorem pmk_ok {X : Cx} {x : Str} {C : Addr} {p pos : Pos} (e : ExOk X.K X.mg x C) (hg : Gl X x) (hdb : (x == ("__debug__" : Str)) = false := by decide) : PMk X (.Call (.Name x p) [] [] pos) (fun _ H Q => Q (.ref C) none H) :=
  pmk_own0 PySem.F.excBase_ValueError e.ex e.g e.kp (raises_own e.bp e.tp) hg hdb
/-! the promises of such defs -/
structure CalX (P : Program) (w : World) (K : PySem.W.Frag) (mg : Str → Option Value) (base : Heap) (k : Nat) (x : Str) (sp : Sp) : Prop where
  ex : ∃ (f : Addr) (fd : FuncData) (ps : List Str), FnOk P w K mg base (L2.CX P w) k f fd ps sp ∧ mg x = some (.ref f) ∧ PySem.W.keepIn K (.ref f) = true ∧ Binds K fd ps []
structure MetX (P : Program) (w : World) (K : PySem.W.Frag) (mg : Str → Option Value) (base : Heap) (k : Nat) (C : Addr) (m : Str) (sp : Sp) : Prop where
  ex : ∃ (f : Addr) (fd : FuncData) (ps : List Str), Cls K C ∧ Meth K C m f ∧ FnOk P w K mg base (L2.CX P w) k f fd ps sp ∧ Binds K fd ps []
structure MakX (P : Program) (w : World) (K : PySem.W.Frag) (mg : Str → Option Value) (base : Heap) (k : Nat) (x : Str) (C : Addr) (sp : Sp) : Prop where
  ex : ∃ (f : Addr) (fd : FuncData) (ps : List Str), Mk K C f ∧ FnOk P w K mg base (L2.CX P w) k f fd ps sp ∧ mg x = some (.ref C) ∧ Binds K fd ps []
section
variable {P : Program} {w : World} {K : PySem.W.Frag} {mg : Str → Option Value} {base : Heap}
theorem calX {x : Str} {st : Stmt} {N ps : List Str} {k : Nat} {sp : Sp} (D : DefOk K mg x st ps) (S : FnScope N ps (defScope st)) (len : ∀ vs H Q E, sp vs H Q E → vs.length = ps.length)
    (hbody : ∀ (f : Addr) (cdv : Value) (A : Around) (outer : List Env) (s : Shared) (H : Hp) (vs : List V) (Q : VK) (E : XK), Room k (A.deeper (envOfC x (defScope st) s.heap.objs.size f cdv)) → sp vs H Q E →
      ∃ t, PSs (cxOf (L2.CX P w) P w K mg base N x (defScope st) f cdv A outer s H E) (defBody st) t ∧ t { nx := fun _ H' => Q .non H', rt := Q } (start N vs) H) : CalX P w K mg base (k + 1) x sp := by
  obtain ⟨f, fd, F, hm, b⟩ := D.ex
  exact ⟨f, fd, ps, F.okX S len (fun cdv A outer s H vs Q E hr h => hbody f cdv A outer s H vs Q E hr h), hm, F.kp, b⟩
theorem metX {C : Addr} {m qual : Str} {st : Stmt} {N ps : List Str} {k : Nat} {sp : Sp} (c : Cls K C) (D : MethOk K C m qual st ps) (S : FnScope N ps (defScope st)) (len : ∀ vs H Q E, sp vs H Q E → vs.length = ps.length)
    (hbody : ∀ (f : Addr) (cdv : Value) (A : Around) (outer : List Env) (s : Shared) (H : Hp) (vs : List V) (Q : VK) (E : XK), Room k (A.deeper (envOfC qual (defScope st) s.heap.objs.size f cdv)) → sp vs H Q E →
      ∃ t, PSs (cxOf (L2.CX P w) P w K mg base N qual (defScope st) f cdv A outer s H E) (defBody st) t ∧ t { nx := fun _ H' => Q .non H', rt := Q } (start N vs) H) : MetX P w K mg base (k + 1) C m sp := by
  obtain ⟨f, fd, M, F, b⟩ := D.ex
  exact ⟨f, fd, ps, c, M, F.okX S len (fun cdv A outer s H vs Q E hr h => hbody f cdv A outer s H vs Q E hr h), b⟩
theorem makX {C : Addr} {x qual : Str} {st : Stmt} {N ps : List Str} {k : Nat} {sp : Sp} (hm : mg x = some (.ref C)) (D : MakOk K C qual st ps) (S : FnScope N ps (defScope st)) (len : ∀ vs H Q E, sp vs H Q E → vs.length = ps.length)
    (hbody : ∀ (f : Addr) (cdv : Value) (A : Around) (outer : List Env) (s : Shared) (H : Hp) (vs : List V) (Q : VK) (E : XK), Room k (A.deeper (envOfC qual (defScope st) s.heap.objs.size f cdv)) → sp vs H Q E →
      ∃ t, PSs (cxOf (L2.CX P w) P w K mg base N qual (defScope st) f cdv A outer s H E) (defBody st) t ∧ t { nx := fun _ H' => Q .non H', rt := Q } (start N vs) H) : MakX P w K mg base (k + 1) x C sp := by
  obtain ⟨f, fd, M, F, b⟩ := D.ex
  exact ⟨f, fd, ps, M, F.okX S len (fun cdv A outer s H vs Q E hr h => hbody f cdv A outer s H vs Q E hr h), hm, b⟩
end
/-! their calls: E tells at the slots what is wished of an error -/
section
variable {X : Cx} {k j : Nat} {C : Addr} {x m : Str} {sp : Sp} {p pos apos : Pos} {e o : Expr} {es : List Expr} {ta : TE} {t : TA} {E : L2.St → XK}
theorem pe_cX (c : CalX X.prog X.w X.K X.mg X.base k x sp) (hr : Room j X.A) (hk : k ≤ j) (hg : Gl X x) (hx : ∀ σ, PassesAt (L2.CX X.prog X.w) X σ (E σ)) (ha : PA X (e :: es) t)
    (hdb : (x == ("__debug__" : Str)) = false := by decide) (he : starEach (e :: es) X.env = (false, eval e X.env) :: starEach es X.env := by rfl) (hpl : (backTo pos (starEach es X.env)).any (·.1) = false := by rfl) :
    PE X (.Call (.Name x p) (e :: es) [] pos) (tCallS sp E t) := by
  obtain ⟨f, fd, ps, F, hm, kp, b⟩ := c.ex
  exact pe_callS F (hr.mono hk) hg hm kp b hx ha hdb he hpl
/-- where nothing is raised -/
theorem pe_cXn (c : CalX X.prog X.w X.K X.mg X.base k x sp) (hr : Room j X.A) (hk : k ≤ j) (hg : Gl X x) (ha : PA X (e :: es) t)
    (hdb : (x == ("__debug__" : Str)) = false := by decide) (he : starEach (e :: es) X.env = (false, eval e X.env) :: starEach es X.env := by rfl) (hpl : (backTo pos (starEach es X.env)).any (·.1) = false := by rfl) :
    PE X (.Call (.Name x p) (e :: es) [] pos) (tCall sp [] L2.E0 t) := by
  obtain ⟨f, fd, ps, F, hm, kp, b⟩ := c.ex
  exact pe_call F (hr.mono hk) hg hm kp b .nil passL ha hdb he hpl
def tMethX (C : Addr) (m : Str) (sp : Sp) (E : L2.St → XK) (ta : TE) (t : TA) : TE := fun σ H Q => ta σ H fun x H1 => ∃ a dx fs, x = .ref a ∧ H1 a = some (.ins C dx fs) ∧ fs.lookup m = none ∧ t σ H1 fun vs H2 => sp (.ref a :: vs) H2 Q (E σ)
theorem pe_mtX {pl : Sem Bool} (c : MetX X.prog X.w X.K X.mg X.base k C m sp) (hr : Room j X.A) (hk : k ≤ j) (hx : ∀ σ, PassesAt (L2.CX X.prog X.w) X σ (E σ)) (he : PE X o ta) (ha : PA X (e :: es) t)
    (hst : starEach (e :: es) X.env = (false, eval e X.env) :: starEach es X.env := by rfl) (hpl : (backTo pos (starEach es X.env)).any (·.1) = false := by rfl)
    (ht : eval (.Call (.Attribute o m apos) (e :: es) [] pos) X.env = (do
      let ov ← eval o X.env
      standAt apos.atName
      let (f, first) ← holding [ov] (getMethod ov m pl)
      callWith pos f first (backTo pos (starEach (e :: es) X.env)) (backToKw pos (keywordEach [] X.env))) := by rfl) :
    PE X (.Call (.Attribute o m apos) (e :: es) [] pos) (tMethX C m sp E ta t) := by
  obtain ⟨f, fd, ps, hc, hm, F, b⟩ := c.ex
  refine ⟨fun pins s σ H Q I h => ?_⟩
  refine PySem.W.methodCall_KW (pl := pl) (thn (he.run pins s σ H _ I h) fun u s1 ⟨x, H1, I1, rx, a, dx, fs, ex, ea, l, q⟩ => ?_) ht
  subst ex
  obtain rfl : u = Value.ref a := rx
  refine getmeth_ok I1 ea hc hm l ?_
  refine PySem.W.callWith_K (first := [.ref a]) (h₀ := X.base) I.ok.mod.kin hm.kp (thn (ha.run pos pins s1 σ H1 _ I1 q) fun us s2 ⟨vs, H2, I2, r, q2⟩ => ⟨I2.kIn, ?_⟩) hst hpl
  exact run_fnS (us := .ref a :: us) (vs := .ref a :: vs) F (hr.mono hk) b (hx σ) I2 (.cons rfl r) q2
theorem pe_mtX0 {pl : Sem Bool} (c : MetX X.prog X.w X.K X.mg X.base k C m sp) (hr : Room j X.A) (hk : k ≤ j) (hx : ∀ σ, PassesAt (L2.CX X.prog X.w) X σ (E σ)) (he : PE X o ta)
    (ht : eval (.Call (.Attribute o m apos) [] [] pos) X.env = (do
      let ov ← eval o X.env
      standAt apos.atName
      let (f, first) ← holding [ov] (getMethod ov m pl)
      callWith pos f first (backTo pos (starEach [] X.env)) (backToKw pos (keywordEach [] X.env))) := by rfl) :
    PE X (.Call (.Attribute o m apos) [] [] pos) (tMethX C m sp E ta tNil) := by
  obtain ⟨f, fd, ps, hc, hm, F, b⟩ := c.ex
  refine ⟨fun pins s σ H Q I h => ?_⟩
  refine PySem.W.methodCall_KW (pl := pl) (thn (he.run pins s σ H _ I h) fun u s1 ⟨x, H1, I1, rx, a, dx, fs, ex, ea, l, q⟩ => ?_) ht
  subst ex
  obtain rfl : u = Value.ref a := rx
  refine getmeth_ok I1 ea hc hm l ?_
  exact PySem.W.callWith_K0 (first := [.ref a]) I1.kIn hm.kp (run_fnS (us := [.ref a]) (vs := [.ref a]) F (hr.mono hk) b (hx σ) I1 (.cons rfl .nil) q)
def tMakeX (C : Addr) (sp : Sp) (E : L2.St → XK) (t : TA) : TE := fun σ H Q => t σ H fun vs H1 => ∀ x dx, H1 x = none → H1 dx = none → dx ≠ x → sp (.ref x :: vs) (upd (upd H1 dx (.own x)) x (.ins C dx [])) (fun v H2 => v = .non ∧ Q (.ref x) H2) (E σ)
theorem run_makeX {CX : CXT} {f : Addr} {fd : FuncData} {ps : List Str} {pins : List (Addr × Obj)} {σ : L2.St} {H : Hp} {s : Shared} {Q : VK} {us : List Value} {vs : List V} {Eσ : XK} (M : Mk X.K C f) (F : FnOk X.prog X.w X.K X.mg X.base CX k f fd ps sp) (hr : Room (k + 1) X.A) (hb : Binds X.K fd ps [])
    (hx : PassesAt CX X σ Eσ) (I : Inv X pins σ H s) (r : Vals vs us)
    (h : ∀ x dx, H x = none → H dx = none → dx ≠ x → sp (.ref x :: vs) (upd (upd H dx (.own x)) x (.ins C dx [])) (fun v H2 => v = .non ∧ Q (.ref x) H2) Eσ) :
    wpAny (model X.prog X.w) X.A (call (.ref C) us) (EP X pins σ Q) X.xe s := by
  have hq := h (s.heap.objs.size + 1) s.heap.objs.size (I.hok.fresh (Nat.le_succ _)) (I.hok.fresh (Nat.le_refl _)) (Nat.ne_of_lt (Nat.lt_succ_self _))
  have I2 := Inv.made (C := C) I
  have r2 : Vals (V.ref (s.heap.objs.size + 1) :: vs) (Value.ref (s.heap.objs.size + 1) :: us) := .cons rfl r
  have hl : (Value.ref (s.heap.objs.size + 1) :: us ++ ([] : List Value)).length = ps.length := by
    have e := r2.length
    rw [F.len _ _ _ _ hq] at e
    rw [List.append_nil]
    exact e.symm
  have hb' := hb _ (Value.ref (s.heap.objs.size + 1) :: us) I2.kIn hl
  rw [List.append_nil] at hb'
  refine wpAny_call (make_map (f := f) I.kIn M.makes M.init (beq_iff_eq.mp M.fn) (codeAny_mono (F.run _ X.stack _ _ ⟨Value.ref (s.heap.objs.size + 1) :: us, []⟩ (Value.ref (s.heap.objs.size + 1) :: us) _ _ Eσ (hr.make C us [])
    (I2.env0.make C us []) hb' r2 hq) fun r s' hq' => ?_))
  cases r with
  | error e => exact hx pins _ _ e s' I2 hq'
  | ok fl =>
    cases fl with
    | ret u =>
      obtain ⟨v, H', I3, rv, ev, q3⟩ := I2.after hq'
      subst ev
      exact ⟨rv, ⟨V.ref (s.heap.objs.size + 1), H', I3, rfl, q3⟩⟩
    | next => exact False.elim hq'
    | brk => exact False.elim hq'
    | cont => exact False.elim hq'
theorem pe_mkX (c : MakX X.prog X.w X.K X.mg X.base k x C sp) (hr : Room j X.A) (hk : k + 1 ≤ j) (hg : Gl X x) (hx : ∀ σ, PassesAt (L2.CX X.prog X.w) X σ (E σ)) (ha : PA X (e :: es) t)
    (hdb : (x == ("__debug__" : Str)) = false := by decide) (he : starEach (e :: es) X.env = (false, eval e X.env) :: starEach es X.env := by rfl) (hpl : (backTo pos (starEach es X.env)).any (·.1) = false := by rfl) :
    PE X (.Call (.Name x p) (e :: es) [] pos) (tMakeX C sp E t) := by
  obtain ⟨f, fd, ps, M, F, hm, b⟩ := c.ex
  refine ⟨fun pins s σ H Q I h => ?_⟩
  refine wpAny_Call_Name_kw (ld_glob I hg hm ?_ hdb)
  refine PySem.W.callWith_K (h₀ := X.base) I.ok.mod.kin M.kp (thn (ha.run pos pins s σ H _ I h) fun us s1 ⟨vs, H1, I1, r, q⟩ => ⟨I1.kIn, ?_⟩) he hpl
  exact run_makeX M F (hr.mono hk) b (hx σ) I1 r q
/-- where nothing is let out: for the calls above in a def without errors -/
theorem no_pass : ∀ σ : L2.St, PassesAt (L2.CX X.prog X.w) X σ ((fun _ => L2.E0) σ) := fun σ pins H s e s' I c => passL pins σ H s e s' I c
end

def topS (i : Nat) : Stmt := PySem.Challenge.pw_oathledger_k31_chain_tip_and_path.main.body.getD i (.Pass ⟨0, 0, 0, 0⟩)
abbrev s_Chain____init__ : Stmt := inClass (topS 5) 0
theorem sc_Chain____init__ : FnScope ["self", "root"] ["self", "root"] (defScope s_Chain____init__) := ⟨rfl, rfl, rfl, by decide +kernel, rfl, by decide +kernel, by decide +kernel⟩
abbrev s_Chain__insert : Stmt := inClass (topS 5) 1
theorem sc_Chain__insert : FnScope ["self", "block", "epoch"] ["self", "block"] (defScope s_Chain__insert) := ⟨rfl, rfl, rfl, by decide +kernel, rfl, by decide +kernel, by decide +kernel⟩
abbrev s_Chain__tip : Stmt := inClass (topS 5) 3
theorem sc_Chain__tip : FnScope ["self"] ["self"] (defScope s_Chain__tip) := ⟨rfl, rfl, rfl, by decide +kernel, rfl, by decide +kernel, by decide +kernel⟩
abbrev s_Chain__path : Stmt := inClass (topS 5) 4
theorem sc_Chain__path : FnScope ["self", "epoch", "blocks", "block"] ["self", "epoch"] (defScope s_Chain__path) := ⟨rfl, rfl, rfl, by decide +kernel, rfl, by decide +kernel, by decide +kernel⟩
abbrev s_Chain___connect_waiting : Stmt := inClass (topS 5) 7
theorem sc_Chain___connect_waiting : FnScope ["self", "reached", "epochs", "epoch", "block"] ["self"] (defScope s_Chain___connect_waiting) := ⟨rfl, rfl, rfl, by decide +kernel, rfl, by decide +kernel, by decide +kernel⟩
abbrev s_has_parent : Stmt := topS 6
theorem sc_has_parent : FnScope ["connected", "block", "parent"] ["connected", "block"] (defScope s_has_parent) := ⟨rfl, rfl, rfl, by decide +kernel, rfl, by decide +kernel, by decide +kernel⟩
abbrev s_place : Stmt := topS 7
theorem sc_place : FnScope ["block"] ["block"] (defScope s_place) := ⟨rfl, rfl, rfl, by decide +kernel, rfl, by decide +kernel, by decide +kernel⟩
abbrev s_highest : Stmt := topS 8
theorem sc_highest : FnScope ["blocks"] ["blocks"] (defScope s_highest) := ⟨rfl, rfl, rfl, by decide +kernel, rfl, by decide +kernel, by decide +kernel⟩
abbrev s__law_cell : Stmt := topS 10
theorem sc__law_cell : FnScope ["script", "k"] ["script", "k"] (defScope s__law_cell) := ⟨rfl, rfl, rfl, by decide +kernel, rfl, by decide +kernel, by decide +kernel⟩
abbrev s__law_draws : Stmt := topS 11
theorem sc__law_draws : FnScope ["script", "start", "most", "draws", "cell", "number", "mixed", "k"] ["script", "start", "most"] (defScope s__law_draws) := ⟨rfl, rfl, rfl, by decide +kernel, rfl, by decide +kernel, by decide +kernel⟩
abbrev s__law_root : Stmt := topS 12
theorem sc__law_root : FnScope ["cell"] ["cell"] (defScope s__law_root) := ⟨rfl, rfl, rfl, by decide +kernel, rfl, by decide +kernel, by decide +kernel⟩
abbrev s__law_blocks : Stmt := topS 13
theorem sc__law_blocks : FnScope ["root", "draws", "blocks", "epoch", "draw", "parents", "parent", "height", "name"] ["root", "draws"] (defScope s__law_blocks) := ⟨rfl, rfl, rfl, by decide +kernel, rfl, by decide +kernel, by decide +kernel⟩
abbrev s__law_connected : Stmt := topS 14
theorem sc__law_connected : FnScope ["root", "blocks", "found", "block", "parent"] ["root", "blocks"] (defScope s__law_connected) := ⟨rfl, rfl, rfl, by decide +kernel, rfl, by decide +kernel, by decide +kernel⟩
abbrev s__law_path : Stmt := topS 16
theorem sc__law_path : FnScope ["found", "root", "block", "path"] ["found", "root", "block"] (defScope s__law_path) := ⟨rfl, rfl, rfl, by decide +kernel, rfl, by decide +kernel, by decide +kernel⟩
abbrev s__law_refused : Stmt := topS 17
theorem sc__law_refused : FnScope ["chain", "epoch"] ["chain", "epoch"] (defScope s__law_refused) := ⟨rfl, rfl, rfl, by decide +kernel, rfl, by decide +kernel, by decide +kernel⟩
abbrev s_law : Stmt := topS 18
theorem sc_law : FnScope ["script", "root", "blocks", "chain", "k", "found", "best", "block", "epoch"] ["script"] (defScope s_law) := ⟨rfl, rfl, rfl, by decide +kernel, rfl, by decide +kernel, by decide +kernel⟩
structure Txt (K : PySem.W.Frag) (mg : Str → Option Value) (C_Chain : Addr) (C_BadBlock : Addr) : Prop where
  d_has_parent : DefOk K mg "has_parent" s_has_parent ["connected", "block"]
  d_place : DefOk K mg "place" s_place ["block"]
  d_highest : DefOk K mg "highest" s_highest ["blocks"]
  d__law_cell : DefOk K mg "_law_cell" s__law_cell ["script", "k"]
  d__law_draws : DefOk K mg "_law_draws" s__law_draws ["script", "start", "most"]
  d__law_root : DefOk K mg "_law_root" s__law_root ["cell"]
  d__law_blocks : DefOk K mg "_law_blocks" s__law_blocks ["root", "draws"]
  d__law_connected : DefOk K mg "_law_connected" s__law_connected ["root", "blocks"]
  d__law_path : DefOk K mg "_law_path" s__law_path ["found", "root", "block"]
  d__law_refused : DefOk K mg "_law_refused" s__law_refused ["chain", "epoch"]
  d_law : DefOk K mg "law" s_law ["script"]
  cl_Chain : Cls K C_Chain
  g_Chain : mg "Chain" = some (.ref C_Chain)
  na_Chain_root : NoAttr K C_Chain "root"
  na_Chain__connected : NoAttr K C_Chain "_connected"
  na_Chain__waiting : NoAttr K C_Chain "_waiting"
  mk_Chain : MakOk K C_Chain "Chain.__init__" s_Chain____init__ ["self", "root"]
  me_Chain__insert : MethOk K C_Chain "insert" "Chain.insert" s_Chain__insert ["self", "block"]
  me_Chain__tip : MethOk K C_Chain "tip" "Chain.tip" s_Chain__tip ["self"]
  me_Chain__path : MethOk K C_Chain "path" "Chain.path" s_Chain__path ["self", "epoch"]
  me_Chain___connect_waiting : MethOk K C_Chain "_connect_waiting" "Chain._connect_waiting" s_Chain___connect_waiting ["self"]
  x_BadBlock : ExOk K mg "BadBlock" C_BadBlock
  u_BadBlock_BadBlock : PySem.W.subIn K (.ref C_BadBlock) (.ref C_BadBlock) = some true
  z_abs : mg "abs" = none
  z_int : mg "int" = none
  z_len : mg "len" = none
  z_list : mg "list" = none
  z_max : mg "max" = none
  z_range : mg "range" = none
  z_sorted : mg "sorted" = none
set_option pp.maxSteps 150
/-! ### sorted(xs, key=f), f an own def that gives a pair of ints -/
section
open PyProof.Rows PySem.Calls
/-- the order of the keys -/
def LexP (a b : Int × Int) : Prop := a.1 < b.1 ∨ (a.1 = b.1 ∧ a.2 ≤ b.2)
def rSortBy (K : PySem.W.Frag) (kp : Addr) (sp : Sp) : List V → List V → Hp → VK → Prop := fun vs zs H Q => ∃ (l : Addr) (xs : List (V × (Int × Int))), vs = [.ref l] ∧ zs = [.ref kp] ∧ SqL K H l (xs.map (·.1)) ∧ xs.length ≤ 1000 ∧
  (∀ x ∈ xs, ∀ H1, Same H H1 → ∀ Q1 : VK, (∀ t H2, Same H1 H2 → H1 t = none → H2 t = some (.tup [.int x.2.1, .int x.2.2]) → Q1 (.ref t) H2) → sp [x.1] H1 Q1 E0) ∧
  ∀ (H1 : Hp) (ys : List (V × (Int × Int))) (p : Addr), Same H H1 → ys.Perm xs → ys.Pairwise (fun x y => LexP x.2 y.2) → H1 p = none → Q (.ref p) (upd H1 p (.lst (ys.map (·.1))))
theorem each_zip {α β γ δ : Type} {R : α → β → Prop} {f : γ → α} {k : δ → β} : ∀ (ts : List γ) (xs : List δ), ts.length = xs.length → (∀ (j : Nat) (t : γ) (x : δ), ts[j]? = some t → xs[j]? = some x → R (f t) (k x)) → PySem.W.EachIs R (ts.map f) (xs.map k)
  | [], [], _, _ => .nil
  | [], _ :: _, h, _ => by simp at h
  | _ :: _, [], h, _ => by simp at h
  | t :: ts, x :: xs, h, hr => .cons (hr 0 t x rfl rfl) (each_zip ts xs (by simpa using h) fun j t x h1 h2 => hr (j + 1) t x h1 h2)
theorem each_vals {α : Type} {f : α → V} : ∀ {xs : List α} {its : List Value}, Vals (xs.map f) its → PySem.W.EachIs (fun v x => RelV (f x) v) its xs
  | [], _, .nil => .nil
  | _ :: _, _, .cons h r => .cons h (each_vals r)
theorem vals_each {α : Type} {f : α → V} : ∀ {its : List Value} {xs : List α}, PySem.W.EachIs (fun v x => RelV (f x) v) its xs → Vals (xs.map f) its
  | _, _, .nil => .nil
  | _, _, .cons h r => .cons h (vals_each r)
theorem freed_none {h : Heap} {b : Addr} {o : Obj} (e : h.get? b = some o) : (h.update b fun o => { o with data := .freed }).get? b = none := by
  obtain ⟨objs, l⟩ := h
  unfold Heap.get? Heap.update at *
  simp only at e ⊢
  rw [Array.getElem?_modify, if_pos rfl]
  cases q : objs[b]? with
  | none => rfl
  | some u => rfl
variable {X : Cx}
theorem cr_sortBy {k : Nat} {kp : Addr} {sp : Sp} (c : C8.CalAt X.prog X.w X.K X.mg X.base k kp sp) (hr : Room (k + 2) X.A) : CallRK X (.builtin "sorted") [Str.ofString "key"] (rSortBy X.K kp sp) := by
  intro pins s σ H vs zs us ws Q I r rz h
  obtain ⟨l, xs, rfl, rfl, hs, hlen', hk, q⟩ := h
  obtain rfl := Vals.ref1 r
  obtain ⟨w1, rfl, e1⟩ := vals1 rz
  obtain rfl : w1 = Value.ref kp := e1
  obtain ⟨its, rv, hl, hz⟩ := I.list hs
  obtain ⟨fd, ps, F, kin, bi⟩ := c.ex
  have FR := F.raw bi .nil
  have ln := rv.length
  rw [List.length_map] at ln
  have hsz : its.length ≤ sizeLine := by rw [← ln]; exact Nat.le_trans hlen' (by rw [sizeLine_eq]; decide)
  show wpAny _ _ (call (.builtin "sorted") [.ref l] [(Str.ofString "key", .ref kp)]) _ _ _
  refine PySem.W.sorted_of_sort hl.isList hsz (PyProof.Rows.ksk_s1 _ _) (fun _ => PyProof.Rows.ksk_l1 _ _) fun E' => ?_
  rw [PyProof.Rows.ksk_t1]
  generalize ha : s.heap.objs.size + 1 = a
  have hla : s.heap.objs.size ≤ a := by omega
  have ho : (PySem.W.copyHeap s.heap its).get? a = some (seqObj "list" its.toArray 0) := by rw [← ha]; exact PySem.W.copyHeap_at s.heap its
  have hold : ∀ b o, s.heap.get? b = some o → b ≠ a ∧ (PySem.W.copyHeap s.heap its).get? b = some o := fun b o e => ⟨Nat.ne_of_lt (Nat.lt_of_lt_of_le (Heap.lt_size e) hla), PySem.W.copyHeap_old e⟩
  generalize PySem.W.copyHeap s.heap its = h0 at ho hold
  obtain ⟨e1, ho1⟩ : ∃ e1, (h0.update a (Obj.mapSeq fun _ => (#[] : Array Value))).get? a = some (seqObj "list" #[] e1) := ⟨_, get?_update_seq ho fun _ => #[]⟩
  have sz0 := Heap.lt_size ho
  unfold ksk_tree
  refine wpAny_bind (listItems_at ho rfl ?_)
  refine wpAny_bind (listUpdate_at ho rfl ?_ (by rw [List.size_toArray]; exact hsz) (Nat.zero_le _))
  refine wpAny_bind (seqEpoch_at ho1 rfl ?_)
  refine wpAny_bind (wpAny_newTuple ?_ (by show its.length ≤ _; exact hsz))
  refine wpAny_bind (wpAny_newList ?_ (Nat.zero_le _))
  refine wpAny_holding ?_
  have old4 : ∀ b o, s.heap.get? b = some o → (PySem.W.sortingHeap h0 a its).get? b = some o := fun b o e => PySem.W.sortingHeap_old (hold b o e).1 (hold b o e).2
  generalize hkS : ((h0.update a (Obj.mapSeq fun _ => (#[] : Array Value))).push (seqObj "tuple" its.toArray 0)).objs.size = kS
  have lkS : a < kS := by rw [← hkS, size_push', Heap.size_update]; exact Nat.lt_succ_of_lt sz0
  have nk4 : (PySem.W.sortingHeap h0 a its).get? kS = some (seqObj "list" #[] 0) := by rw [← hkS]; exact Heap.get?_push_size _ rfl
  have na4 : (PySem.W.sortingHeap h0 a its).get? a = some (seqObj "list" #[] e1) := Heap.get?_push_of_some _ (Heap.get?_push_of_some _ ho1)
  show wpAny _ _ (ksk_rest a (.ref kp) false its.toArray e1 (.ref kS)) _ _ { s with heap := PySem.W.sortingHeap h0 a its }
  have I4 : Inv X pins σ H { s with heap := PySem.W.sortingHeap h0 a its } := I.kept (t' := s.toks) old4
  generalize PySem.W.sortingHeap h0 a its = h4 at nk4 na4 I4
  have hka : kS ≠ a := Nat.ne_of_gt lkS
  have fpa : ∀ {H' : Hp}, H' a = none → FpOk X pins H' a := fun z => I.fpOk hla z
  have fpk : ∀ {H' : Hp}, H' kS = none → FpOk X pins H' kS := fun z => I.fpOk (Nat.le_trans hla (Nat.le_of_lt lkS)) z
  have Ha : H a = none := I.hok.fresh hla
  have HkS : H kS = none := I.hok.fresh (Nat.le_trans hla (Nat.le_of_lt lkS))
  have nst : ∀ b, s.heap.objs.size ≤ b → b ∉ frs X.stack := fun b hb z => by
    have f := I.fpOk (H' := H) hb (I.hok.fresh hb)
    rcases List.mem_cons.mp (I.stkSub b z) with e | e
    · exact f.2.1 e
    · exact f.2.2.1 e
  unfold ksk_rest
  refine wpAny_bind (wpAny_rule ?_)
  first
    | rw [List.forIn_toArray]
    | (rw [← Array.forIn_toList]; simp only [List.toList_toArray])
    | rw [← Array.forIn_toList]
  refine wpAny_bind (ksk_fold (fun i s' => ∃ (H' : Hp) (kA : Array Value) (e : Nat) (ts : List Addr), Same H H' ∧ Inv X pins σ H' s' ∧ s'.heap.get? kS = some (seqObj "list" kA e) ∧ s'.heap.get? a = some (seqObj "list" #[] e1) ∧ H' kS = none ∧ H' a = none ∧ kA.toList = ts.map Value.ref ∧ ts.length = i ∧ ∀ (j : Nat) (t : Addr) (x : V × (Int × Int)), ts[j]? = some t → xs[j]? = some x → H' t = some (.tup [.int x.2.1, .int x.2.2])) its 0 { s with heap := h4 }
    ⟨H, #[], 0, [], Same.refl _, I4, nk4, na4, HkS, Ha, rfl, rfl, fun j t x e => by rw [List.getElem?_nil] at e; cases e⟩ ?step ?done)
  case step =>
    rintro j v s' hv ⟨H', kA, e, ts, sm, I', nk, na, hk0, ha0, ek, el, hts⟩
    simp only [Nat.zero_add] at el ⊢
    have hj : j < its.length := (List.getElem?_eq_some_iff.mp hv).1
    obtain ⟨x, hx⟩ : ∃ x, xs[j]? = some x := ⟨_, List.getElem?_eq_getElem (by omega)⟩
    obtain ⟨v', hv', rx⟩ := rv.get (show (xs.map (·.1))[j]? = some x.1 by rw [List.getElem?_map, hx]; rfl)
    have ev : v' = v := Option.some.inj (hv'.symm.trans hv)
    rw [ev] at rx
    have hsp := hk x (List.mem_of_getElem? hx) H' sm (fun y H2 => ∃ t, y = .ref t ∧ Same H' H2 ∧ H' t = none ∧ H2 t = some (.tup [.int x.2.1, .int x.2.2])) (fun t H2 s2 t0 et => ⟨t, rfl, s2, t0, et⟩)
    have e0 : Env0 X.prog X.w X.K X.mg X.base X.A.in1.in1 X.stack s' H' := I'.env0.in1.in1
    refine wpAny_bind (wpAny_attempt (wpAny_call (codeAny_mono (FR X.A.in1.in1 X.stack s' H' [v] [x.1] _ E0 hr.in1.in1 e0 (.cons rx .nil) hsp) fun r s'' hq => ?_)))
    cases r with
    | error e => exact False.elim hq
    | ok fl =>
      cases fl with
      | next => exact False.elim hq
      | brk => exact False.elim hq
      | cont => exact False.elim hq
      | ret u =>
        obtain ⟨y, H2, os, bare, un, hok, ry, t, ey, s2, t0, et⟩ := hq
        subst ey
        obtain rfl : u = Value.ref t := ry
        have I2 : Inv X pins σ H2 s'' := I'.call' (ch := []) os un hok bare (fun b z => absurd z (by simp))
        have nk2 := un.keep kS _ nk hk0 (nst kS (Nat.le_trans hla (Nat.le_of_lt lkS))) (by simp)
        have na2 := un.keep a _ na ha0 (nst a hla) (by simp)
        have hk2 := un.free kS _ nk hk0 (by simp)
        have ha2 := un.free a _ na ha0 (by simp)
        have hz2 : kA.size ≤ its.length := by rw [← Array.length_toList, ek, List.length_map]; omega
        have s1 := Heap.SameBut.update s''.heap kS (Obj.mapSeq (·.push (Value.ref t)))
        obtain ⟨c2, hc2⟩ : ∃ c2, (s''.heap.update kS (Obj.mapSeq (·.push (Value.ref t)))).get? kS = some (seqObj "list" (kA.push (Value.ref t)) c2) := ⟨_, get?_update_seq nk2 (·.push (Value.ref t))⟩
        have nts : ts.length < 2 ^ 62 := by rw [el]; have := Nat.lt_of_lt_of_le hj hsz; rw [sizeLine_eq] at this; omega
        refine wpAny_bind (listUpdate_at nk2 rfl ?_ (Nat.le_trans hz2 hsz) (Nat.le_trans (Nat.le_of_eq (Array.size_push ..)) (Nat.succ_le_succ (Nat.le_trans hz2 hsz))))
        refine wpAny_pure ⟨rfl, H2, kA.push (Value.ref t), c2, ts ++ [t], sm.trans s2, ?_, hc2, (s1.2 a hka.symm).trans na2, hk2, ha2, by rw [Array.toList_push, ek, List.map_append]; rfl, by rw [List.length_append, el]; rfl, fun i u z hu hz => ?_⟩
        · exact I2.turnedL (t' := s''.toks) (ch := [kS]) (fun b o hb e => (s1.2 b (fun q => hb (List.mem_singleton.mpr q))).trans e) (fun b hb => by rw [List.mem_singleton.mp hb]; exact fpk hk2)
        · by_cases hi : i < ts.length
          · rw [List.getElem?_append_left hi] at hu
            exact s2 _ _ (hts i u z hu hz)
          · rw [List.getElem?_append_right (by omega)] at hu
            have hu2 := List.getElem?_eq_some_iff.mp hu
            obtain ⟨h1, h2⟩ := hu2
            have h1 : i - ts.length < 1 := h1
            have z0 : i - ts.length = 0 := by omega
            have ij : i = j := by omega
            simp only [z0] at h2
            have h2 : t = u := h2
            rw [ij, hx] at hz
            rw [← h2, ← Option.some.inj hz]
            exact et
  case done =>
    rintro s' ⟨H', kA, e, ts, sm, I', nk, na, hk0, ha0, ek, el, hts⟩
    have el : ts.length = its.length := by omega
    refine wpAny_bind (listItems_at nk rfl ?_)
    have kz : PySem.W.EachIs (fun v k => ∃ as, Reads s'.heap v k as) kA.toList (xs.map fun x => PyData.tuple [.int x.2.1, .int x.2.2]) := by
      rw [ek]
      refine each_zip ts xs (by omega) fun j t x h1 h2 => ?_
      exact Dp.reads I' _ (.ref t) (.ref t) (.tup (SqT.of (hts j t x h1 h2)) (.cons (.int _) (.cons (.int _) .nil))) rfl
    have gone : (s'.heap.update kS fun o => { o with data := .freed }).get? kS = none := freed_none nk
    have hal : PySem.W.AllAlike (xs.map fun x => PyData.tuple [.int x.2.1, .int x.2.2]) := PySem.W.AllAlike.of fun _ _ => by simp [PySem.W.alike, PySem.W.alikeAll]
    have s3 := Heap.SameBut.update s'.heap kS fun o => { o with data := .freed }
    have hlen : kA.size = its.length := by rw [← Array.length_toList, ek, List.length_map, el]
    refine PySem.W.keyH_end (κ := PySem.W.dataKind s'.heap (xs.map fun x => PyData.tuple [.int x.2.1, .int x.2.2])) (h₁ := s'.heap.update kS fun o => { o with data := .freed }) (fun b o hb e => ?_) gone nk na hka (PySem.W.SortsAt.data kz ?_ ?_ ?_) hlen hsz fun h3 tk3 c3 k3 n3 => ⟨rfl, ?_⟩
    · by_cases z : b = kS
      · rw [z, gone] at e; cases e
      · rw [← s3.2 b z]; exact e
    · exact hal
    · exact PySem.W.Sortable.tuples fun _ => ⟨_, _, rfl⟩
    · intro d hd
      obtain ⟨x, _, rfl⟩ := List.mem_map.mp hd
      have hd : (PyData.tuple [.int x.2.1, .int x.2.2]).depth = 1 := by simp [PyData.depth, PyData.depthAll]
      have := hr.in1.in1.units
      omega
    · have ev := PySem.W.keyedOut_each (rev := false) (fun x : V × (Int × Int) => PyData.tuple [.int x.2.1, .int x.2.2]) ⟨s'.heap, kA.toList, hal, rfl, kz⟩ (each_vals rv)
      rw [PySem.W.dataLe_ii (β := V × (Int × Int)) (fun x => x.2.1) (fun x => x.2.2)] at ev
      have ro := vals_each ev
      have pe := List.mergeSort_perm xs (fun p q => decide (p.2.1 < q.2.1 ∨ (p.2.1 = q.2.1 ∧ p.2.2 ≤ q.2.2)))
      have so := List.pairwise_mergeSort (le := fun p q => decide (p.2.1 < q.2.1 ∨ (p.2.1 = q.2.1 ∧ p.2.2 ≤ q.2.2))) (fun a b c h1 h2 => by
        have h1 := of_decide_eq_true h1
        have h2 := of_decide_eq_true h2
        exact decide_eq_true (by omega)) (fun a b => by
        by_cases h : a.2.1 < b.2.1 ∨ (a.2.1 = b.2.1 ∧ a.2.2 ≤ b.2.2)
        · rw [decide_eq_true h]; rfl
        · rw [decide_eq_true (show b.2.1 < a.2.1 ∨ (b.2.1 = a.2.1 ∧ b.2.2 ≤ a.2.2) by omega), Bool.or_true]) xs
      generalize xs.mergeSort (fun p q => decide (p.2.1 < q.2.1 ∨ (p.2.1 = q.2.1 ∧ p.2.2 ≤ q.2.2))) = ys at ro pe so
      have I5 : Inv X pins σ H' { s' with heap := h3, toks := tk3 } := I'.turnedL (ch := [kS, a]) (fun b o hb e => k3 b o (fun z => hb (by simp [z])) ((s3.2 b (fun z => hb (by simp [z]))).trans e)) (fun b hb => by
        simp only [List.mem_cons, List.not_mem_nil, or_false] at hb
        rcases hb with rfl | rfl
        · exact fpk hk0
        · exact fpa ha0)
      have I6 := I5.take (it := a) (o := .lst (ys.map (·.1))) (h' := h3) (t' := tk3) (fun _ _ _ e => e) (fpa ha0) ⟨by rw [List.length_map, pe.length_eq]; exact Nat.le_trans hlen' (by rw [sizeLine_eq]; decide), _, c3, ro, n3⟩
      exact ⟨.ref a, upd H' a (.lst (ys.map (·.1))), I6, rfl, q H' ys a sm pe (so.imp fun h => of_decide_eq_true h) ha0⟩
end

/-! ### t > u of pairs of ints; max(xs, key=f), f an own def that gives a pair of ints -/
section
open PyProof.Rows PySem.Calls
variable {X : Cx}
theorem pair_gt {pins : List (Addr × Obj)} {σ : L2.St} {H : Hp} {s : Shared} {A : Around} (I : Inv X pins σ H s) {x y : Addr} {a b c d : Int} (hx : H x = some (.tup [.int a, .int b])) (hy : H y = some (.tup [.int c, .int d])) (hu : A.units < cLine) :
    Ob.RcOp .Gt A s (.ref x) (.ref y) (decide (c < a ∨ (c = a ∧ d < b))) := by
  obtain ⟨its, r1, p1, _⟩ := I.tuple (SqT.of hx)
  obtain ⟨its2, r2, p2, _⟩ := I.tuple (SqT.of hy)
  have i1 : IntsAre its [a, b] := Vals.ints (ns := [a, b]) r1
  have i2 : IntsAre its2 [c, d] := Vals.ints (ns := [c, d]) r2
  have e1 : its.toArray.size = 2 := by rw [List.size_toArray]; exact i1.length
  have e2 : its2.toArray.size = 2 := by rw [List.size_toArray]; exact i2.length
  have at1 : ∀ j (h1 : j < its.toArray.size), ∃ t, its.toArray[j] = .int (([a, b] : List Int).getD j 0) t := fun j h1 => PyProof.Rows.IntsAre.int_at i1 _ _ (by simp at h1; simp [h1])
  have at2 : ∀ j (h1 : j < its2.toArray.size), ∃ t, its2.toArray[j] = .int (([c, d] : List Int).getD j 0) t := fun j h1 => PyProof.Rows.IntsAre.int_at i2 _ _ (by simp at h1; simp [h1])
  have R := Ob.RcOp.tuples_gt (A := A) (s := s) (e := fun j => decide (([a, b] : List Int).getD j 0 = ([c, d] : List Int).getD j 0)) (r := fun j => decide (([c, d] : List Int).getD j 0 < ([a, b] : List Int).getD j 0)) p1 p2 hu (fun j h1 h2 => by
    obtain ⟨t, et⟩ := at1 j h1
    obtain ⟨t', et'⟩ := at2 j h2
    rw [et, et']
    have z : (([a, b] : List Int).getD j 0 == ([c, d] : List Int).getD j 0) = decide (([a, b] : List Int).getD j 0 = ([c, d] : List Int).getD j 0) := by
      by_cases q : ([a, b] : List Int).getD j 0 = ([c, d] : List Int).getD j 0
      · rw [decide_eq_true q]; exact beq_iff_eq.mpr q
      · rw [decide_eq_false q]; exact beq_eq_false_iff_ne.mpr q
    rw [← z]
    exact SeqAt.EqAt.int_int _ _ _ _) (fun j h1 h2 _ => by
    obtain ⟨t, et⟩ := at1 j h1
    obtain ⟨t', et'⟩ := at2 j h2
    rw [et, et']
    exact Ob.RcOp.gt_int _ _ _ _)
  rw [e1, e2] at R
  have e : Ob.lexAt (fun j => decide (([a, b] : List Int).getD j 0 = ([c, d] : List Int).getD j 0)) (fun j => decide (([c, d] : List Int).getD j 0 < ([a, b] : List Int).getD j 0)) (decide (2 > 2)) 0 (min 2 2) = decide (c < a ∨ (c = a ∧ d < b)) := by
    show (if decide (a = c) = true then (if decide (b = d) = true then false else decide (d < b)) else decide (c < a)) = _
    by_cases h1 : a = c
    · rw [if_pos (decide_eq_true h1)]
      by_cases h2 : b = d
      · rw [if_pos (decide_eq_true h2)]; exact (decide_eq_false (by omega)).symm
      · rw [if_neg (by simp [h2])]
        by_cases h3 : d < b
        · rw [decide_eq_true h3]; exact (decide_eq_true (by omega)).symm
        · rw [decide_eq_false h3]; exact (decide_eq_false (by omega)).symm
    · rw [if_neg (by simp [h1])]
      by_cases h3 : c < a
      · rw [decide_eq_true h3]; exact (decide_eq_true (by omega)).symm
      · rw [decide_eq_false h3]; exact (decide_eq_false (by omega)).symm
  rw [e] at R
  exact R
def rGtP : R2 := fun x y H Q => ∃ (s t : Addr) (a b c d : Int), x = .ref s ∧ y = .ref t ∧ H s = some (.tup [.int a, .int b]) ∧ H t = some (.tup [.int c, .int d]) ∧ Q (.bl (decide (c < a ∨ (c = a ∧ d < b)))) H
theorem op_gtP (hu : X.A.units < cLine) : OpR X (compareOp .Gt) rGtP := by
  intro pins s σ H x y v u Q I rx ry h
  obtain ⟨p, t, a, b, c, d, rfl, rfl, hx, hy, q⟩ := h
  cases rx
  cases ry
  have z : wpAny (model X.prog X.w) X.A (compareOp .Gt (.ref p) (.ref t)) (EP X pins σ Q) X.xe s := pair_gt I hx hy hu X.prog X.w X.xe (EP X pins σ Q) ⟨.bl _, H, I, rfl, q⟩
  exact z
def rMaxBy (K : PySem.W.Frag) (kp : Addr) (sp : Sp) : List V → List V → Hp → VK → Prop := fun vs zs H Q => ∃ (l : Addr) (xs : List (V × (Int × Int))), vs = [.ref l] ∧ zs = [.ref kp] ∧ SqL K H l (xs.map (·.1)) ∧ 0 < xs.length ∧
  (∀ x ∈ xs, ∀ H1, Same H H1 → ∀ Q1 : VK, (∀ t H2, Same H1 H2 → H1 t = none → H2 t = some (.tup [.int x.2.1, .int x.2.2]) → Q1 (.ref t) H2) → sp [x.1] H1 Q1 E0) ∧
  ∀ (H1 : Hp) (x : V × (Int × Int)), Same H H1 → x ∈ xs → (∀ y ∈ xs, LexP y.2 x.2) → Q x.1 H1
theorem cr_maxBy {k : Nat} {kp : Addr} {sp : Sp} (c : C8.CalAt X.prog X.w X.K X.mg X.base k kp sp) (hr : Room (k + 1) X.A) : CallRK X (.builtin "max") [Str.ofString "key"] (rMaxBy X.K kp sp) := by
  intro pins s σ H vs zs us ws Q I r rz h
  obtain ⟨l, xs, rfl, rfl, hs, hne, hk, q⟩ := h
  obtain rfl := Vals.ref1 r
  obtain ⟨w1, rfl, e1⟩ := vals1 rz
  obtain rfl : w1 = Value.ref kp := e1
  obtain ⟨its0, rv0, hl0, hz0⟩ := I.list hs
  obtain ⟨fd, ps, F, kin, bi⟩ := c.ex
  have FR := F.raw bi .nil
  show wpAny _ _ (call (.builtin "max") [.ref l] [(Str.ofString "key", .ref kp)]) _ _ _
  have hname : (toString "max" ++ toString ".loop" : String) = "max.loop" := by decide
  refine kmk_tree PySem.F.kind_max PySem.F.plain_max PySem.F.entry_max (kmk_max_key _ _) ?_
  show wpAny _ X.A.in1 (Builtin.Builtins.bindParams "max" ["key", "default"] 0 ⟨[], [(Str.ofString "key", .ref kp)]⟩ >>= _) _ _ s
  refine wpAny_bind (wpAny_of_eq (show Builtin.Builtins.bindParams "max" ["key", "default"] 0 ⟨[], [(Str.ofString "key", .ref kp)]⟩ = pure [some (.ref kp), none] from rfl) ?_)
  refine wpAny_bind (wpAny_pure ?_)
  refine wpAny_bind (wpAny_pyIter_list hl0.isList ?_)
  refine wpAny_bind (wpAny_newList ?_ (Nat.zero_le _))
  rw [hname]
  generalize hI0 : s.heap.objs.size = I0
  generalize hh1 : s.heap.push { cls := .type "list_iterator", data := .fields #[.ref l, .int 0 0] } = h1
  have hS0 : h1.objs.size = I0 + 1 := by rw [← hh1, ← hI0]; exact size_push' ..
  generalize hS : h1.objs.size = S at hS0
  have hIS : I0 ≠ S := by omega
  have gI : (h1.push (seqObj "list" #[] 0)).get? I0 = some { cls := .type "list_iterator", data := .fields #[.ref l, .int 0 0] } := by
    refine Heap.get?_push_of_some _ ?_
    rw [← hh1, ← hI0]; exact Heap.get?_push_size _ rfl
  have gS : (h1.push (seqObj "list" #[] 0)).get? S = some (seqObj "list" #[] 0) := by rw [← hS]; exact Heap.get?_push_size _ rfl
  have old : ∀ b o, s.heap.get? b = some o → (h1.push (seqObj "list" #[] 0)).get? b = some o := fun b o e => by
    refine Heap.get?_push_of_some _ ?_
    rw [← hh1]; exact Heap.get?_push_of_some _ e
  have I1 : Inv X pins σ H { s with heap := h1.push (seqObj "list" #[] 0) } := I.kept (t' := s.toks) old
  generalize h1.push (seqObj "list" #[] 0) = h2 at gI gS I1
  have leI : s.heap.objs.size ≤ I0 := by omega
  have leS : s.heap.objs.size ≤ S := by omega
  have fpI : ∀ {H' : Hp}, H' I0 = none → FpOk X pins H' I0 := fun z => I.fpOk leI z
  have fpS : ∀ {H' : Hp}, H' S = none → FpOk X pins H' S := fun z => I.fpOk leS z
  have nst : ∀ b, s.heap.objs.size ≤ b → b ∉ frs X.stack := fun b hb z => by
    have f := I.fpOk (H' := H) hb (I.hok.fresh hb)
    rcases List.mem_cons.mp (I.stkSub b z) with e | e
    · exact f.2.1 e
    · exact f.2.2.1 e
  have HI : H I0 = none := I.hok.fresh leI
  have HS : H S = none := I.hok.fresh leS
  have room1 : X.A.in1.units < cLine := hr.in1.units0
  have step : ∀ (s' : Shared) (H' : Hp) (v : Value) (x : V × (Int × Int)) (oS oI : Obj), Same H H' → Inv X pins σ H' s' → H' S = none → H' I0 = none → x ∈ xs → RelV x.1 v → s'.heap.get? S = some oS → s'.heap.get? I0 = some oI →
      ∀ (Qc : Value → Shared → Prop) (Ec : Value → Shared → Prop), (∀ t H2 s'', Same H' H2 → Inv X pins σ H2 s'' → H2 S = none → H2 I0 = none → s''.heap.get? S = some oS → s''.heap.get? I0 = some oI → H2 t = some (.tup [.int x.2.1, .int x.2.2]) → Qc (.ref t) s'') →
      wpAny (model X.prog X.w) X.A.in1 (call (.ref kp) [v]) Qc Ec s' := by
    intro s' H' v x oS oI sm I' hS' hI' mx rx gS' gI' Qc Ec fin
    have hsp := hk x mx H' sm (fun y H2 => ∃ t, y = .ref t ∧ Same H' H2 ∧ H' t = none ∧ H2 t = some (.tup [.int x.2.1, .int x.2.2])) (fun t H2 s2 t0 et => ⟨t, rfl, s2, t0, et⟩)
    have e0 : Env0 X.prog X.w X.K X.mg X.base X.A.in1 X.stack s' H' := I'.env0.in1
    refine wpAny_call (codeAny_mono (FR X.A.in1 X.stack s' H' [v] [x.1] _ E0 hr.in1 e0 (.cons rx .nil) hsp) fun r s'' hq => ?_)
    cases r with
    | error e => exact False.elim hq
    | ok fl =>
      cases fl with
      | next => exact False.elim hq
      | brk => exact False.elim hq
      | cont => exact False.elim hq
      | ret u =>
        obtain ⟨y, H2, os, bare, un, hok, ry, t, ey, s2, t0, et⟩ := hq
        subst ey
        obtain rfl : u = Value.ref t := ry
        have I2 : Inv X pins σ H2 s'' := I'.call' (ch := []) os un hok bare (fun b z => absurd z (by simp))
        exact fin t H2 s'' s2 I2 (un.free S _ gS' hS' (by simp)) (un.free I0 _ gI' hI' (by simp)) (un.keep S _ gS' hS' (nst S leS) (by simp)) (un.keep I0 _ gI' hI' (nst I0 leI) (by simp)) et
  have loop : ∀ (r j i : Nat) (s' : Shared) (H' : Hp) (vb : Value) (t : Addr) (cc : Nat) (x : V × (Int × Int)), xs.length - (j + 1) = r → j + 1 ≤ xs.length → Same H H' → Inv X pins σ H' s' → H' S = none → H' I0 = none →
      s'.heap.get? S = some (seqObj "list" #[vb, .ref t] cc) → s'.heap.IsListIter I0 l (j + 1) → xs[i]? = some x → RelV x.1 vb → H' t = some (.tup [.int x.2.1, .int x.2.2]) → (∀ j' y, j' ≤ j → xs[j']? = some y → LexP y.2 x.2) →
      codeAny (model X.prog X.w) X.A (.builtin "max.loop" ⟨[.ref I0, .ref kp, .ref S], []⟩) (fun r s' => match r with | .ok (.ret v) => EP X pins σ Q v s' | .ok _ => False | .error e => X.xe e s') s' := by
    intro r
    induction r with
    | zero =>
      intro j i s' H' vb t cc x hr0 hj sm I' hS' hI' gS' hit gx rx et best
      obtain ⟨its, rv, hl, hz⟩ := I'.list (sm.seq hs)
      have ln := rv.length
      rw [List.length_map] at ln
      refine codeAny_builtin PySem.F.entry_max_loop ?_
      rw [Around.under_plainId PySem.F.plain_max_loop _]
      show wpAny _ X.A.in1 (seqItems? (.ref S) >>= _) _ _ _
      refine wpAny_bind (wpAny_seqItems gS' rfl ?_)
      show wpAny _ X.A.in1 (tryCatch (pyNext (.ref I0)) _ >>= _) _ _ _
      refine wpAny_bind (wpAny_tryCatch (wpAny_pyNext_list_end hr.in1.hd hit hl.isList (by simp; omega) fun h3 he => ?_))
      have gS3 : h3.get? S = some (seqObj "list" #[vb, .ref t] cc) := he S _ (fun z => hIS z.symm) gS'
      have I3 : Inv X pins σ H' { s' with heap := h3, toks := s'.toks } := I'.turnedL (ch := [I0]) (fun b o hb e => he b o (fun z => hb (List.mem_singleton.mpr z)) e) (fun b hb => by rw [List.mem_singleton.mp hb]; exact fpI hI')
      show wpAny _ X.A.in1 (updateSeq S (fun _ => #[]) >>= _) _ _ _
      refine wpAny_bind ?_
      refine wpAny_updateSeq gS3 rfl (wpAny_bind (wpAny_letGo (wpAny_pure ?_)))
      have s1 := Heap.SameBut.update h3 S (Obj.mapSeq fun _ => (#[] : Array Value))
      refine ⟨x.1, H', I3.turnedL (ch := [S]) (fun b o hb e => (s1.2 b (fun q => hb (List.mem_singleton.mpr q))).trans e) (fun b hb => by rw [List.mem_singleton.mp hb]; exact fpS hS'), rx, q H' x sm (List.mem_of_getElem? gx) (fun y my => ?_)⟩
      obtain ⟨j', hj', rfl⟩ := List.getElem_of_mem my
      exact best j' _ (by omega) (List.getElem?_eq_getElem hj')
    | succ r ih =>
      intro j i s' H' vb t cc x hr0 hj sm I' hS' hI' gS' hit gx rx et best
      obtain ⟨its, rv, hl, hz⟩ := I'.list (sm.seq hs)
      have ln := rv.length
      rw [List.length_map] at ln
      have hlt : j + 1 < xs.length := by omega
      obtain ⟨y, gy⟩ : ∃ y, xs[j + 1]? = some y := ⟨_, List.getElem?_eq_getElem hlt⟩
      obtain ⟨v, hv, ry⟩ := rv.get (show (xs.map (·.1))[j + 1]? = some y.1 by rw [List.getElem?_map, gy]; rfl)
      refine codeAny_builtin PySem.F.entry_max_loop ?_
      rw [Around.under_plainId PySem.F.plain_max_loop _]
      show wpAny _ X.A.in1 (seqItems? (.ref S) >>= _) _ _ _
      refine wpAny_bind (wpAny_seqItems gS' rfl ?_)
      show wpAny _ X.A.in1 (tryCatch (pyNext (.ref I0)) _ >>= _) _ _ _
      refine wpAny_bind (wpAny_tryCatch (wpAny_pyNext_list_item hit hl.isList (x := v) (by simpa using hv) fun h3 hit3 sb => ?_))
      have gS3 : h3.get? S = some (seqObj "list" #[vb, .ref t] cc) := (sb.2 S (fun z => hIS z.symm)).trans gS'
      have I3 : Inv X pins σ H' { s' with heap := h3, toks := s'.toks } := I'.turnedL (ch := [I0]) (fun b o hb e => (sb.2 b (fun z => hb (List.mem_singleton.mpr z))).trans e) (fun b hb => by rw [List.mem_singleton.mp hb]; exact fpI hI')
      obtain ⟨oI, goI, coI, doI⟩ := id hit3
      show wpAny _ X.A.in1 (tryCatch (holding [v] (call (.ref kp) [v])) _ >>= _) _ _ _
      refine wpAny_bind (wpAny_tryCatch (wpAny_holding (step _ H' v y _ oI sm I3 hS' hI' (List.mem_of_getElem? gy) ry gS3 goI _ _ fun t2 H2 s'' s2 I2 hS2 hI2 gS2 goI2 et2 => ?_)))
      have gt := pair_gt (A := X.A.in1) I2 et2 (s2 _ _ et) room1
      show wpAny _ X.A.in1 (tryCatch (holding [v, .ref t2] (richCompare .Gt (.ref t2) (.ref t) >>= _)) _ >>= _) _ _ _
      refine wpAny_bind (wpAny_tryCatch (wpAny_holding (wpAny_bind (gt _ _ _ _ ?_))))
      refine wpAny_bind (wpAny_holding (wpAny_truthy_bool ?_))
      refine wpAny_bind (wpAny_letGo (wpAny_pure ?_))
      by_cases hg : x.2.1 < y.2.1 ∨ (x.2.1 = y.2.1 ∧ x.2.2 < y.2.2)
      · rw [decide_eq_true hg]
        simp only [if_true]
        refine wpAny_bind ?_
        refine wpAny_updateSeq gS2 rfl (wpAny_bind (wpAny_letGo ?_))
        rw [hname]
        have s1 := Heap.SameBut.update s''.heap S (Obj.mapSeq fun _ => #[v, .ref t2])
        obtain ⟨c2, hc2⟩ : ∃ c2, (s''.heap.update S (Obj.mapSeq fun _ => #[v, .ref t2])).get? S = some (seqObj "list" #[v, .ref t2] c2) := ⟨_, get?_update_seq gS2 fun _ => #[v, .ref t2]⟩
        have I4 : Inv X pins σ H2 { s'' with heap := s''.heap.update S (Obj.mapSeq fun _ => #[v, .ref t2]), toks := s''.toks } := I2.turnedL (ch := [S]) (fun b o hb e => (s1.2 b (fun q => hb (List.mem_singleton.mpr q))).trans e) (fun b hb => by rw [List.mem_singleton.mp hb]; exact fpS hS2)
        refine wpAny_pure ⟨plainId_quiet PySem.F.plain_max_loop _, ih (j + 1) (j + 1) _ H2 v t2 c2 y (by omega) hlt (sm.trans s2) I4 hS2 hI2 hc2 ⟨oI, (s1.2 _ hIS).trans goI2, coI, doI⟩ gy ry et2 fun j' z hj' gz => ?_⟩
        rcases Nat.lt_or_ge j' (j + 1) with l1 | l1
        · have := best j' z (by omega) gz
          unfold LexP at *
          omega
        · have e : j' = j + 1 := by omega
          rw [e, gy] at gz
          cases gz
          exact .inr ⟨rfl, Int.le_refl _⟩
      · rw [decide_eq_false hg]
        simp only [Bool.false_eq_true, if_false]
        refine wpAny_bind (wpAny_letGo ?_)
        rw [hname]
        refine wpAny_pure ⟨plainId_quiet PySem.F.plain_max_loop _, ih (j + 1) i s'' H2 vb t cc x (by omega) hlt (sm.trans s2) I2 hS2 hI2 gS2 ⟨oI, goI2, coI, doI⟩ gx rx (s2 _ _ et) fun j' z hj' gz => ?_⟩
        rcases Nat.lt_or_ge j' (j + 1) with l1 | l1
        · exact best j' z (by omega) gz
        · have e : j' = j + 1 := by omega
          rw [e, gy] at gz
          cases gz
          unfold LexP
          omega
  obtain ⟨x0, g0⟩ : ∃ y, xs[0]? = some y := ⟨_, List.getElem?_eq_getElem hne⟩
  refine wpAny_pure ⟨plainId_quiet PySem.F.plain_max_loop _, ?_⟩
  obtain ⟨its, rv, hl, hz⟩ := I1.list hs
  obtain ⟨v, hv, rx0⟩ := rv.get (show (xs.map (·.1))[0]? = some x0.1 by rw [List.getElem?_map, g0]; rfl)
  refine codeAny_builtin PySem.F.entry_max_loop ?_
  rw [Around.under_plainId PySem.F.plain_max_loop _]
  show wpAny _ X.A.in1 (seqItems? (.ref S) >>= _) _ _ _
  refine wpAny_bind (wpAny_seqItems gS rfl ?_)
  show wpAny _ X.A.in1 (tryCatch (pyNext (.ref I0)) _ >>= _) _ _ _
  refine wpAny_bind (wpAny_tryCatch (wpAny_pyNext_list_item (i := 0) ⟨_, gI, rfl, rfl⟩ hl.isList (x := v) (by simpa using hv) fun h3 hit3 sb => ?_))
  have gS3 : h3.get? S = some (seqObj "list" #[] 0) := (sb.2 S (fun z => hIS z.symm)).trans gS
  have I3 : Inv X pins σ H { ({ s with heap := h2 } : Shared) with heap := h3, toks := s.toks } := I1.turnedL (ch := [I0]) (fun b o hb e => (sb.2 b (fun z => hb (List.mem_singleton.mpr z))).trans e) (fun b hb => by rw [List.mem_singleton.mp hb]; exact fpI HI)
  obtain ⟨oI, goI, coI, doI⟩ := id hit3
  show wpAny _ X.A.in1 (tryCatch (holding [v] (call (.ref kp) [v])) _ >>= _) _ _ _
  refine wpAny_bind (wpAny_tryCatch (wpAny_holding (step _ H v x0 _ oI (Same.refl _) I3 HS HI (List.mem_of_getElem? g0) rx0 gS3 goI _ _ fun t2 H2 s'' s2 I2 hS2 hI2 gS2 goI2 et2 => ?_)))
  show wpAny _ X.A.in1 (updateSeq S (fun _ => #[v, .ref t2]) >>= _) _ _ _
  refine wpAny_bind ?_
  refine wpAny_updateSeq gS2 rfl ?_
  rw [hname]
  have s1 := Heap.SameBut.update s''.heap S (Obj.mapSeq fun _ => #[v, .ref t2])
  obtain ⟨c2, hc2⟩ : ∃ c2, (s''.heap.update S (Obj.mapSeq fun _ => #[v, .ref t2])).get? S = some (seqObj "list" #[v, .ref t2] c2) := ⟨_, get?_update_seq gS2 fun _ => #[v, .ref t2]⟩
  have I4 : Inv X pins σ H2 { s'' with heap := s''.heap.update S (Obj.mapSeq fun _ => #[v, .ref t2]), toks := s''.toks } := I2.turnedL (ch := [S]) (fun b o hb e => (s1.2 b (fun q => hb (List.mem_singleton.mpr q))).trans e) (fun b hb => by rw [List.mem_singleton.mp hb]; exact fpS hS2)
  refine wpAny_pure ⟨plainId_quiet PySem.F.plain_max_loop _, loop _ 0 0 _ H2 v t2 c2 x0 rfl hne s2 I4 hS2 hI2 hc2 ⟨oI, (s1.2 _ hIS).trans goI2, coI, doI⟩ g0 rx0 et2 fun j' z hj' gz => ?_⟩
  have e : j' = 0 := by omega
  rw [e, g0] at gz
  cases gz
  exact .inr ⟨rfl, Int.le_refl _⟩
end

/-! ### list(d.values()).count(x): rules -/
section
variable {X : Cx}
theorem mt_dvals : MtR X "dict.values" (fun x xs H Q => ∃ (a : Addr) (kvs : List (Key × V)), x = .ref a ∧ xs = [] ∧ H a = some (.dK kvs) ∧ ∀ p, H p = none → Q (.ref p) (upd H p (viewO "dict_values" p a))) := by
  intro pins s σ H x xs v us Q I rx rxs h
  obtain ⟨a, kvs, rfl, rfl, ha, q⟩ := h
  cases rx
  cases rxs
  obtain ⟨_, hsys, vs, rel, dof⟩ := dk_of I.hok ha
  obtain ⟨ep, dat⟩ := dof.dictAt
  have dat' := dat
  obtain ⟨ob, es, ho, ex, hdat, hko, hpr, hnd⟩ := dat'
  refine call_meetsIn F.slot_dict_values ⟨ob, ho, ex.1⟩ F.entry_dict_values (F.args_dict_values_1 _) (meets_dict_values (mixKind X.prog X.w) a hsys) ⟨⟨vs, dof⟩, ?_⟩
  exact ⟨.ref s.heap.objs.size, _, I.laid (t' := s.toks) (fun b o q => Heap.get?_push_of_some _ q) (Nat.le_refl _) (viewO_ok (Heap.get?_push_size _ rfl)), rfl, q _ (I.hok.fresh (Nat.le_refl _))⟩
theorem call_listVals (hcalm : X.calm = true) : CallR X (.type "list") (fun xs H Q => ∃ (p a : Addr) (kvs : List (Key × V)), xs = [.ref p] ∧ H p = some (viewO "dict_values" p a) ∧ H a = some (.dK kvs) ∧ ∀ l, H l = none → Q (.ref l) (upd H l (.lst (kvs.map (·.2))))) := by
  intro pins s σ H xs us Q I r q
  obtain ⟨p, a, kvs, ex, hp, hd, q⟩ := q
  subst ex
  obtain ⟨u, eu, rx⟩ := vals1 r
  subst eu
  cases rx
  obtain ⟨z, lo, vs, rel, dd⟩ := dk_of I.hok hd
  obtain ⟨ep, hat⟩ := dd.dictAt
  have hv : s.heap.get? p = some (DSub.viewOb "dict_values" a) := (show ObjOk X.prog X.w H s.heap p (viewO "dict_values" p a) from I.hok p _ hp).1
  refine PySem.W.kdl_call (PySem.W.kdl_values (knd := mixKind X.prog X.w) (kvs := vs) (ep := ep)) (I.ok.hd hcalm) ⟨⟨_, hv, rfl, rfl⟩, hat⟩ (by rw [← rel.length]; exact z) fun h' tk acc c' hk hD hacc => ?_
  have hvv : Vals (kvs.map (·.2)) acc.toList := vals_of_at (by have e1 := hacc.1; have e2 := rel.length; rw [List.length_map, Array.length_toList]; exact e2.trans e1.symm) fun j x u hx hu => by
    obtain ⟨k, hk⟩ := hacc.2 j u (by rw [← Array.getElem?_toList]; exact hu)
    obtain ⟨y, h1, h2⟩ := KV.at' rel hk
    rw [List.getElem?_map, h1] at hx
    cases hx
    exact h2
  exact ⟨.ref s.heap.objs.size, upd H s.heap.objs.size (.lst (kvs.map (·.2))), I.laid (t' := tk) hk (Nat.le_refl _)
    (show ObjOk X.prog X.w _ _ _ (.lst (kvs.map (·.2))) from ⟨by rw [List.length_map]; exact z, acc.toList, c', hvv, by rw [Array.toArray_toList]; exact hD⟩), rfl, q _ (I.hok.fresh (Nat.le_refl _))⟩
def rCountD (K : PySem.W.Frag) : V → List V → Hp → VK → Prop := fun x xs H Q => ∃ (a : Addr) (y : V) (d : PyData) (ds : List PyData), x = V.ref a ∧ xs = [y] ∧ Dp K H (V.ref a) (.list ds) ∧ Dp K H y d ∧
  SeqAt.shaped (.list ds) = true ∧ SeqAt.shaped d = true ∧ Q (.int ((ds.countP fun z => PyData.eqv z d : Nat) : Int)) H
theorem mt_lcountD (hu : X.A.units + 65 < cLine) : MtR X "list.count" (rCountD X.K) := by
  intro pins s σ H x xs v us Q I rx rxs h
  obtain ⟨a, y, d, ds, rfl, rfl, hl, hy, sl, sd, q⟩ := h
  cases rx
  cases rxs with
  | cons ry rt =>
    rename_i uy ut
    cases rt
    obtain ⟨bs, r1⟩ := Dp.reads I d y uy hy ry
    have hxs : PyData.canLayAll0 ds = true := SeqAt.canLay_of_shaped sl
    have hroom : X.A.units + 1 + min (PyData.depthAll ds) d.depth < cLine := room_in_shaped sd hu
    cases hl with
    | lst hs ha =>
      obtain ⟨its, rv, ⟨⟨cls, dd, data, sls⟩, n, ho, hc, hdn, hdt⟩, hlen⟩ := I.list hs
      simp only at hc hdt
      subst hc hdt
      obtain ⟨as, h4⟩ := Dp.readsAll I ds _ its ha rv
      have hmap : its.map (SeqAt.readOf s.heap) = ds := SeqAt.readsAll_map ds its as hxs h4
      refine call_meets PySem.F.slot_list_count ⟨_, ho, rfl⟩ PySem.F.entry_list_count (PySem.F.args_list_count_2 _ _)
        (SeqAt.list_countAt a its.toArray n dd sls uy (fun u => PyData.eqv (SeqAt.readOf s.heap u) d)) ⟨ho, SeqAt.items_eqAt (vs := its.toArray) (show ReadsAll s.heap its.toArray.toList ds as from h4) r1 hxs (SeqAt.canLay_of_shaped sd) hroom, ?_⟩
      have ec : its.toArray.toList.countP (fun u => PyData.eqv (SeqAt.readOf s.heap u) d) = ds.countP fun z => PyData.eqv z d := by
        rw [← hmap, List.countP_map]; rfl
      refine ⟨.int ((ds.countP fun z => PyData.eqv z d : Nat) : Int), H, I.tok _, ⟨s.toks, ?_⟩, q⟩
      show Value.int ((its.toArray.toList.countP (fun u => PyData.eqv (SeqAt.readOf s.heap u) d) : Nat) : Int) s.toks = Value.int _ s.toks
      rw [ec]
end

/-! ### the draws of a script -/
def Dr (H : Hp) (D A : Addr) : Prop := D ≠ A ∧ ∃ (ds : List Int) (n : Nat), H D = some (.lst (ds.map V.int)) ∧ H A = some (.lst [.int n]) ∧ (∀ d ∈ ds, 0 ≤ d ∧ d < 1000) ∧ ds.length ≤ 2520
/-- all that was tracked but A is as it was -/
def Mod (A : Addr) (H H' : Hp) : Prop := ∀ b o, b ≠ A → H b = some o → H' b = some o
theorem Mod.refl {A : Addr} {H : Hp} : Mod A H H := fun _ _ _ h => h
theorem Mod.trans {A : Addr} {H H1 H2 : Hp} (a : Mod A H H1) (b : Mod A H1 H2) : Mod A H H2 := fun c o n h => b c o n (a c o n h)
theorem Same.mod {A : Addr} {H H' : Hp} (s : Same H H') : Mod A H H' := fun b o _ h => s b o h
theorem Mod.new {A p : Addr} {o : HO} {H H' : Hp} (s : Mod A H H') (h : H' p = none) : Mod A H (upd H' p o) := fun b u n e => by
  rw [upd_ne (ne_of_none (s b u n e) h)]
  exact s b u n e
theorem Dr.new {D A p : Addr} {o : HO} {H : Hp} (d : Dr H D A) (h : H p = none) : Dr (upd H p o) D A := by
  obtain ⟨ne, ds, n, h1, h2, h3⟩ := d
  exact ⟨ne, ds, n, by rw [upd_ne (ne_of_none h1 h)]; exact h1, by rw [upd_ne (ne_of_none h2 h)]; exact h2, h3⟩
theorem Dr.same {D A : Addr} {H H' : Hp} (d : Dr H D A) (s : Same H H') : Dr H' D A := by
  obtain ⟨ne, ds, n, h1, h2, h3⟩ := d
  exact ⟨ne, ds, n, s _ _ h1, s _ _ h2, h3⟩
/-- an object that is neither D nor A is changed -/
theorem Dr.put {D A p : Addr} {o : HO} {H : Hp} (d : Dr H D A) (h1 : p ≠ D) (h2 : p ≠ A) : Dr (upd H p o) D A := by
  obtain ⟨ne, ds, n, e1, e2, h3⟩ := d
  exact ⟨ne, ds, n, by rw [upd_ne h1.symm]; exact e1, by rw [upd_ne h2.symm]; exact e2, h3⟩
theorem Dr.freshA {D A p : Addr} {H : Hp} (d : Dr H D A) (h : H p = none) : p ≠ A := by
  obtain ⟨_, _, _, _, e, _⟩ := d
  exact (ne_of_none e h).symm
theorem Dr.freshD {D A p : Addr} {H : Hp} (d : Dr H D A) (h : H p = none) : p ≠ D := by
  obtain ⟨_, _, _, e, _⟩ := d
  exact (ne_of_none e h).symm
theorem Mod.free {A p : Addr} {H H' : Hp} (s : Mod A H H') (d : ∃ o, H' A = some o) (h : H' p = none) : H p = none := by
  cases e : H p with
  | none => rfl
  | some o =>
    by_cases hp : p = A
    · subst hp
      obtain ⟨o', e'⟩ := d
      rw [e'] at h; cases h
    · rw [s p o hp e] at h; cases h
theorem Dr.A_in {D A : Addr} {H : Hp} (d : Dr H D A) : ∃ o, H A = some o := by
  obtain ⟨_, _, _, _, e, _⟩ := d
  exact ⟨_, e⟩
theorem rng_app {ds : List Int} {x : Int} (h : ∀ d ∈ ds, 0 ≤ d ∧ d < 1000) (h0 : 0 ≤ x) (h1 : x < 1000) : ∀ d ∈ ds ++ [x], 0 ≤ d ∧ d < 1000 := fun d hd => by
  rcases List.mem_append.mp hd with hd | hd
  · exact h d hd
  · rw [List.mem_singleton.mp hd]; exact ⟨h0, h1⟩

/-! ### drawn numbers and strings -/
def prC (c : Nat) : Bool := decide (32 ≤ c) && decide (c ≤ 126) && decide (c ≠ 37)
def isPr (z : Str) : Bool := z.cps.toList.all prC
theorem app_tl (a b : Str) : (a ++ b).cps.toList = a.cps.toList ++ b.cps.toList := by
  show (a.cps ++ b.cps).toList = _
  rw [Array.toList_append]
theorem len_tl (z : Str) : z.cps.toList.length = z.length := Array.length_toList
theorem isPr_app (a b : Str) : isPr (a ++ b) = (isPr a && isPr b) := by
  unfold isPr
  rw [app_tl, List.all_append]

/-! ### values as data: what stands at them does not change -/
def TupAt (K : PySem.W.Frag) (H : Hp) (a : Addr) (xs : List V) : Prop := H a = some (.tup xs) ∨ KTup K a xs
section
variable {K : PySem.W.Frag}
theorem TupAt.sq {H : Hp} {a : Addr} {xs : List V} (h : TupAt K H a xs) : SqT K H a xs := h.elim SqT.of .inr
theorem TupAt.ty {H : Hp} {a : Addr} {xs : List V} (h : TupAt K H a xs) : TyX K H (.ref a) (.type "tuple") := h.elim (fun h => .base (.tup h)) (fun ⟨_, _, _, h1, h2, _⟩ => .kTuple h1 h2)
theorem TupAt.same {H H' : Hp} {a : Addr} {xs : List V} (h : TupAt K H a xs) (s : Same H H') : TupAt K H' a xs := h.imp (s _ _) id
/-- none of those at A (none: no matter) -/
def NeA (A : Option Addr) (a : Addr) : Prop := match A with | some b => a ≠ b | none => True
mutual
/-- v is the data d; the lists in it are none of those at A -/
inductive Dt (K : PySem.W.Frag) (H : Hp) (A : Option Addr) : V → PyData → Prop
  | non : Dt K H A .non .none
  | bl (b : Bool) : Dt K H A (.bl b) (.bool b)
  | int (i : Int) : Dt K H A (.int i) (.int i)
  | str (z : Str) (h : z.length ≤ 1000000) : Dt K H A (.str z) (.str z)
  | lst {a : Addr} {xs : List V} {ds : List PyData} : NeA A a → H a = some (.lst xs) → DtAll K H A xs ds → Dt K H A (.ref a) (.list ds)
  | tup {a : Addr} {xs : List V} {ds : List PyData} : TupAt K H a xs → DtAll K H A xs ds → Dt K H A (.ref a) (.tuple ds)
inductive DtAll (K : PySem.W.Frag) (H : Hp) (A : Option Addr) : List V → List PyData → Prop
  | nil : DtAll K H A [] []
  | cons {v : V} {vs : List V} {d : PyData} {ds : List PyData} : Dt K H A v d → DtAll K H A vs ds → DtAll K H A (v :: vs) (d :: ds)
end
theorem DtAll.length {H : Hp} {A : Option Addr} : ∀ {xs : List V} {ds : List PyData}, DtAll K H A xs ds → xs.length = ds.length
  | _, _, .nil => rfl
  | _, _, .cons _ r => by rw [List.length_cons, List.length_cons, r.length]
theorem DtAll.get {H : Hp} {A : Option Addr} : ∀ {xs : List V} {ds : List PyData} {i : Nat} {x : V}, DtAll K H A xs ds → xs[i]? = some x → ∃ d, ds[i]? = some d ∧ Dt K H A x d
  | _, _, _, _, .nil, e => by simp at e
  | _, _, 0, x, .cons h _, e => by simp at e; subst e; exact ⟨_, rfl, h⟩
  | _, _, i + 1, x, .cons _ r, e => by
    obtain ⟨d, h1, h2⟩ := r.get (i := i) (x := x) (by simpa using e)
    exact ⟨d, by simpa using h1, h2⟩
theorem DtAll.getD {H : Hp} {A : Option Addr} {xs : List V} {ds : List PyData} {i : Nat} {d : PyData} (h : DtAll K H A xs ds) (e : ds[i]? = some d) : ∃ x, xs[i]? = some x ∧ Dt K H A x d := by
  have hi : i < ds.length := (List.getElem?_eq_some_iff.mp e).1
  have hi' : i < xs.length := by rw [h.length]; exact hi
  obtain ⟨d', h1, h2⟩ := h.get (List.getElem?_eq_getElem hi')
  rw [e] at h1
  cases h1
  exact ⟨_, List.getElem?_eq_getElem hi', h2⟩
mutual
theorem Dt.mod {H H' : Hp} {A D : Addr} (s : Mod A H H') (dr : Dr H D A) : ∀ (d : PyData) (v : V), Dt K H (some A) v d → Dt K H' (some A) v d
  | .none, _, h => by cases h; exact .non
  | .bool b, _, h => by cases h; exact .bl b
  | .int i, _, h => by cases h; exact .int i
  | .str z, _, h => by cases h with | str _ hz => exact .str z hz
  | .list ds, _, h => by cases h with | lst hn ha hd => exact .lst hn (s _ _ hn ha) (DtAll.mod s dr ds _ hd)
  | .tuple ds, _, h => by
    cases h with
    | tup ha hd =>
      obtain ⟨_, _, _, _, e, _⟩ := id dr
      exact .tup (ha.imp (fun ha => s _ _ (ne_of ha e (by intro z; cases z)) ha) id) (DtAll.mod s dr ds _ hd)
  | .dict _, _, h => by cases h
theorem DtAll.mod {H H' : Hp} {A D : Addr} (s : Mod A H H') (dr : Dr H D A) : ∀ (ds : List PyData) (xs : List V), DtAll K H (some A) xs ds → DtAll K H' (some A) xs ds
  | [], _, h => by cases h; exact .nil
  | d :: ds, _, h => by cases h with | cons h1 h2 => exact .cons (Dt.mod s dr d _ h1) (DtAll.mod s dr ds _ h2)
end
mutual
theorem Dt.same {H H' : Hp} {A : Option Addr} (s : Same H H') : ∀ (d : PyData) (v : V), Dt K H A v d → Dt K H' A v d
  | .none, _, h => by cases h; exact .non
  | .bool b, _, h => by cases h; exact .bl b
  | .int i, _, h => by cases h; exact .int i
  | .str z, _, h => by cases h with | str _ hz => exact .str z hz
  | .list ds, _, h => by cases h with | lst hn ha hd => exact .lst hn (s _ _ ha) (DtAll.same s ds _ hd)
  | .tuple ds, _, h => by cases h with | tup ha hd => exact .tup (ha.same s) (DtAll.same s ds _ hd)
  | .dict _, _, h => by cases h
theorem DtAll.same {H H' : Hp} {A : Option Addr} (s : Same H H') : ∀ (ds : List PyData) (xs : List V), DtAll K H A xs ds → DtAll K H' A xs ds
  | [], _, h => by cases h; exact .nil
  | d :: ds, _, h => by cases h with | cons h1 h2 => exact .cons (Dt.same s d _ h1) (DtAll.same s ds _ h2)
end
mutual
/-- data for a comparison -/
theorem Dt.dp {H : Hp} {A : Option Addr} : ∀ (d : PyData) (v : V), Dt K H A v d → Dp K H v d
  | .none, _, h => by cases h; exact .non
  | .bool b, _, h => by cases h; exact .bl b
  | .int i, _, h => by cases h; exact .int i
  | .str z, _, h => by cases h; exact .str z
  | .list ds, _, h => by cases h with | lst hn ha hd => exact .lst (SqL.of ha) (DtAll.dp ds _ hd)
  | .tuple ds, _, h => by cases h with | tup ha hd => exact .tup ha.sq (DtAll.dp ds _ hd)
  | .dict _, _, h => by cases h
theorem DtAll.dp {H : Hp} {A : Option Addr} : ∀ (ds : List PyData) (xs : List V), DtAll K H A xs ds → DpAll K H xs ds
  | [], _, h => by cases h; exact .nil
  | d :: ds, _, h => by cases h with | cons h1 h2 => exact .cons (Dt.dp d _ h1) (DtAll.dp ds _ h2)
end
theorem Dt.on {H H' : Hp} {A : Option Addr} {v : V} {d : PyData} (h : Dt K H A v d) (s : Same H H') : Dt K H' A v d := Dt.same s d v h
theorem DtAll.on {H H' : Hp} {A : Option Addr} {xs : List V} {ds : List PyData} (h : DtAll K H A xs ds) (s : Same H H') : DtAll K H' A xs ds := DtAll.same s ds xs h
theorem Dt.by {H H' : Hp} {A D : Addr} {v : V} {d : PyData} (h : Dt K H (some A) v d) (s : Mod A H H') (dr : Dr H D A) : Dt K H' (some A) v d := Dt.mod s dr d v h
theorem DtAll.by {H H' : Hp} {A D : Addr} {xs : List V} {ds : List PyData} (h : DtAll K H (some A) xs ds) (s : Mod A H H') (dr : Dr H D A) : DtAll K H' (some A) xs ds := DtAll.mod s dr ds xs h
theorem Dt.two {H : Hp} {A : Option Addr} {v : V} {d : PyData} (h : Dt K H A v d) : (∃ a xs ds, v = .ref a ∧ d = .tuple ds ∧ TupAt K H a xs ∧ DtAll K H A xs ds) ∨ (∃ T, TyX K H v (.type T) ∧ kitB T "tuple" = some false ∧ ∀ ds, d ≠ .tuple ds) := by
  cases h with
  | tup ha hx => exact .inl ⟨_, _, _, rfl, rfl, ha, hx⟩
  | str z hz => exact .inr ⟨_, .base (.str z), by decide +kernel, fun _ z => nomatch z⟩
  | int i => exact .inr ⟨_, .base (.int i), by decide +kernel, fun _ z => nomatch z⟩
  | non => exact .inr ⟨_, .base .non, by decide +kernel, fun _ z => nomatch z⟩
  | bl b => exact .inr ⟨_, .base (.bl b), by decide +kernel, fun _ z => nomatch z⟩
  | lst _ ha _ => exact .inr ⟨_, .base (.lst ha), by decide +kernel, fun _ z => nomatch z⟩
/-- the kind of a value -/
def dTy : PyData → String
  | .none => "NoneType" | .bool _ => "bool" | .int _ => "int" | .str _ => "str" | .list _ => "list" | .tuple _ => "tuple" | .dict _ => "dict"
theorem Dt.ty {H : Hp} {A : Option Addr} {v : V} {d : PyData} (h : Dt K H A v d) : TyX K H v (.type (dTy d)) := by
  cases h with
  | non => exact .base .non
  | bl b => exact .base (.bl b)
  | int i => exact .base (.int i)
  | str z _ => exact .base (.str z)
  | lst _ ha _ => exact .base (.lst ha)
  | tup ha _ => exact ha.ty
/-! the predicates of the program, upon data -/
def dInt (lo hi : Int) : PyData → Bool
  | .int i => decide (lo ≤ i ∧ i ≤ hi)
  | _ => false
def dShort (m : Int) : PyData → Bool
  | .str z => isPr z && decide ((z.length : Int) ≤ m)
  | _ => false
def dCmd : PyData → Bool
  | .tuple [c, n, t] => dInt (-100) (-1) c && dInt 1 1000000000000 n && dShort 240 t
  | _ => false
def dClient : PyData → Int
  | .tuple (.int c :: _) => c
  | _ => 0
def dAfter : Option Int → PyData → Bool
  | some k, d => decide (k < dClient d)
  | none, _ => true
def befV : Option Int → V
  | some k => .int k
  | none => .non
def dCmdsFrom : Option Int → List PyData → Bool
  | _, [] => true
  | b, d :: r => dCmd d && dAfter b d && dCmdsFrom (some (dClient d)) r
theorem dCmdsFrom_cons (b : Option Int) (d : PyData) (r : List PyData) : dCmdsFrom b (d :: r) = (dCmd d && dAfter b d && dCmdsFrom (some (dClient d)) r) := by cases b <;> rfl
theorem dCmdsFrom_nil (b : Option Int) : dCmdsFrom b [] = true := by cases b <;> rfl
def dCmds : PyData → Bool
  | .tuple ds => dCmdsFrom none ds
  | _ => false
def dHeight (parent : Int) (h : PyData) : Bool := if parent = 0 then dInt 1 1 h else dInt 2 (parent + 1) h
def dBlock4 (e p h cs : PyData) : Bool := match e, p with
  | .int e, .int p => dInt 1 1000000000000 (.int e) && dInt 0 (e - 1) (.int p) && dHeight p h && dCmds cs
  | _, _ => false
def dBlock : PyData → Bool
  | .tuple [e, p, h, cs] => dBlock4 e p h cs
  | _ => false
def dEmpty : PyData → Bool
  | .tuple [] => true
  | _ => false
def dGen : PyData → Bool
  | .tuple [e, p, h, cs] => dInt 0 0 e && dInt 0 0 p && dInt 0 0 h && dEmpty cs
  | _ => false
theorem DtAll.four {H : Hp} {A : Option Addr} {xs : List V} {ds : List PyData} (h : DtAll K H A xs ds) (hl : xs.length = 4) :
    ∃ x1 x2 x3 x4 d1 d2 d3 d4, xs = [x1, x2, x3, x4] ∧ ds = [d1, d2, d3, d4] ∧ Dt K H A x1 d1 ∧ Dt K H A x2 d2 ∧ Dt K H A x3 d3 ∧ Dt K H A x4 d4 := by
  match xs, ds, h with
  | [_, _, _, _], _, .cons h1 (.cons h2 (.cons h3 (.cons h4 .nil))) => exact ⟨_, _, _, _, _, _, _, _, rfl, rfl, h1, h2, h3, h4⟩
theorem dBlock4_e1 {e p h cs : PyData} (z : dInt 1 1000000000000 e = false) : dBlock4 e p h cs = false := by
  unfold dBlock4
  split
  · rw [z]; rfl
  · rfl
theorem dBlock4_e2 {e : Int} {p h cs : PyData} (z : dInt 0 (e - 1) p = false) : dBlock4 (.int e) p h cs = false := by
  unfold dBlock4
  split
  · rename_i h1
    cases h1
    rw [z, Bool.and_false]; rfl
  · rfl
/-- a predicate of one value, kept by growing heaps -/
def spPred (K : PySem.W.Frag) (A : Option Addr) (f : PyData → Bool) : Sp := fun vs H Q _ => ∃ (v : V) (d : PyData), vs = [v] ∧ Dt K H A v d ∧ ∀ H', Same H H' → Q (.bl (f d)) H'
def spIntD (K : PySem.W.Frag) (A : Option Addr) : Sp := fun vs H Q _ => ∃ (v : V) (d : PyData) (lo hi : Int), vs = [v, .int lo, .int hi] ∧ Dt K H A v d ∧ Q (.bl (dInt lo hi d)) H
def spShortD (K : PySem.W.Frag) (A : Option Addr) : Sp := fun vs H Q _ => ∃ (v : V) (d : PyData) (m : Int), vs = [v, .int m] ∧ Dt K H A v d ∧ ∀ H', Same H H' → Q (.bl (dShort m d)) H'
theorem dInt_inv {lo hi : Int} {d : PyData} (h : dInt lo hi d = true) : ∃ i, d = .int i ∧ lo ≤ i ∧ i ≤ hi := by
  cases d with
  | int i =>
    have h : decide (lo ≤ i ∧ i ≤ hi) = true := h
    exact ⟨i, rfl, (of_decide_eq_true h).1, (of_decide_eq_true h).2⟩
  | none => cases h
  | bool b => cases h
  | str z => cases h
  | list ds => cases h
  | tuple ds => cases h
  | dict k => cases h
theorem dShort_inv {m : Int} {d : PyData} (h : dShort m d = true) : ∃ z : Str, d = .str z ∧ isPr z = true ∧ (z.length : Int) ≤ m := by
  cases d with
  | str z =>
    have h : (isPr z && decide ((z.length : Int) ≤ m)) = true := h
    obtain ⟨h1, h2⟩ := Bool.and_eq_true_iff.mp h
    exact ⟨z, rfl, h1, of_decide_eq_true h2⟩
  | none => cases h
  | bool b => cases h
  | int i => cases h
  | list ds => cases h
  | tuple ds => cases h
  | dict k => cases h
theorem dCmd_inv {d : PyData} (h : dCmd d = true) : ∃ (c n : Int) (t : Str), d = .tuple [.int c, .int n, .str t] ∧ -100 ≤ c ∧ c ≤ -1 ∧ 1 ≤ n ∧ n ≤ 1000000000000 ∧ isPr t = true ∧ (t.length : Int) ≤ 240 := by
  unfold dCmd at h
  split at h
  · rename_i c n t
    rw [Bool.and_eq_true, Bool.and_eq_true] at h
    obtain ⟨⟨h1, h2⟩, h3⟩ := h
    obtain ⟨c, rfl, c0, c1⟩ := dInt_inv h1
    obtain ⟨n, rfl, n0, n1⟩ := dInt_inv h2
    obtain ⟨t, rfl, t0, t1⟩ := dShort_inv h3
    exact ⟨c, n, t, rfl, c0, c1, n0, n1, t0, t1⟩
  · cases h
/-- what a tuple of three ints, ints, texts stands for -/
theorem Dt.three {H : Hp} {A : Option Addr} {v : V} {d1 d2 d3 : PyData} (h : Dt K H A v (.tuple [d1, d2, d3])) : ∃ a x1 x2 x3, v = .ref a ∧ TupAt K H a [x1, x2, x3] ∧ Dt K H A x1 d1 ∧ Dt K H A x2 d2 ∧ Dt K H A x3 d3 := by
  cases h with
  | tup ha hd =>
    cases hd with
    | cons h1 hd =>
      cases hd with
      | cons h2 hd =>
        cases hd with
        | cons h3 hd =>
          cases hd
          exact ⟨_, _, _, _, rfl, ha, h1, h2, h3⟩
mutual
theorem Dt.any {H : Hp} {A : Option Addr} : ∀ (d : PyData) (v : V), Dt K H A v d → Dt K H none v d
  | .none, _, h => by cases h; exact .non
  | .bool b, _, h => by cases h; exact .bl b
  | .int i, _, h => by cases h; exact .int i
  | .str z, _, h => by cases h with | str _ hz => exact .str z hz
  | .list ds, _, h => by cases h with | lst hn ha hd => exact .lst trivial ha (DtAll.any ds _ hd)
  | .tuple ds, _, h => by cases h with | tup ha hd => exact .tup ha (DtAll.any ds _ hd)
  | .dict _, _, h => by cases h
theorem DtAll.any {H : Hp} {A : Option Addr} : ∀ (ds : List PyData) (xs : List V), DtAll K H A xs ds → DtAll K H none xs ds
  | [], _, h => by cases h; exact .nil
  | d :: ds, _, h => by cases h with | cons h1 h2 => exact .cons (Dt.any d _ h1) (DtAll.any ds _ h2)
end
theorem Dt.an {H : Hp} {A : Option Addr} {v : V} {d : PyData} (h : Dt K H A v d) : Dt K H none v d := Dt.any d v h
/-! data without lists -/
mutual
def noL : PyData → Bool
  | .list _ => false
  | .tuple ds => noLs ds
  | _ => true
def noLs : List PyData → Bool
  | [] => true
  | d :: r => noL d && noLs r
end
/-- tracked tuples stay -/
def Tp (H H' : Hp) : Prop := ∀ a xs, H a = some (.tup xs) → H' a = some (.tup xs)
mutual
theorem Dt.keep {H H' : Hp} {A B : Option Addr} (t : Tp H H') : ∀ (d : PyData) (v : V), noL d = true → Dt K H A v d → Dt K H' B v d
  | .none, _, _, h => by cases h; exact .non
  | .bool b, _, _, h => by cases h; exact .bl b
  | .int i, _, _, h => by cases h; exact .int i
  | .str z, _, _, h => by cases h with | str _ hz => exact .str z hz
  | .list ds, _, n, _ => by cases n
  | .tuple ds, _, n, h => by cases h with | tup ha hd => exact .tup (ha.imp (t _ _) id) (DtAll.keep t ds _ n hd)
  | .dict _, _, _, h => by cases h
theorem DtAll.keep {H H' : Hp} {A B : Option Addr} (t : Tp H H') : ∀ (ds : List PyData) (xs : List V), noLs ds = true → DtAll K H A xs ds → DtAll K H' B xs ds
  | [], _, _, h => by cases h; exact .nil
  | d :: ds, _, n, h => by
    have n : (noL d && noLs ds) = true := n
    rw [Bool.and_eq_true] at n
    cases h with | cons h1 h2 => exact .cons (Dt.keep t d _ n.1 h1) (DtAll.keep t ds _ n.2 h2)
end
theorem DtAll.snoc {H : Hp} {A : Option Addr} : ∀ {xs : List V} {ds : List PyData} {x : V} {d : PyData}, DtAll K H A xs ds → Dt K H A x d → DtAll K H A (xs ++ [x]) (ds ++ [d])
  | _, _, _, _, .nil, h => .cons h .nil
  | _, _, _, _, .cons h r, h2 => .cons h (r.snoc h2)
theorem TupAt.tp {H H' : Hp} {a : Addr} {xs : List V} (h : TupAt K H a xs) (t : Tp H H') : TupAt K H' a xs := h.imp (t _ _) id
theorem Same.tp {H H' : Hp} (s : Same H H') : Tp H H' := fun _ _ h => s _ _ h
theorem Mod.tp {H H' : Hp} {A D : Addr} (s : Mod A H H') (dr : Dr H D A) : Tp H H' := fun a xs h => by
  obtain ⟨_, _, _, _, e, _⟩ := id dr
  exact s _ _ (ne_of h e (by intro z; cases z)) h
theorem tp_put {H : Hp} {l : Addr} {xs ys : List V} (h : H l = some (.lst xs)) : Tp H (upd H l (.lst ys)) := fun a zs e => by
  rw [upd_ne (ne_of e h (by intro z; cases z))]; exact e
theorem dCmd_noL {d : PyData} (h : dCmd d = true) : noL d = true := by
  obtain ⟨c, n, t, rfl, _⟩ := dCmd_inv h
  rfl
theorem dCmdsFrom_noL : ∀ {ds : List PyData} {b : Option Int}, dCmdsFrom b ds = true → noLs ds = true
  | [], _, _ => rfl
  | d :: r, b, h => by
    rw [dCmdsFrom_cons, Bool.and_eq_true, Bool.and_eq_true] at h
    show (noL d && noLs r) = true
    rw [dCmd_noL h.1.1, dCmdsFrom_noL h.2]; rfl
theorem dCmdsFrom_all : ∀ {ds : List PyData} {b : Option Int}, dCmdsFrom b ds = true → ∀ d ∈ ds, dCmd d = true
  | [], _, _, _, m => nomatch m
  | d :: r, b, h, e, m => by
    rw [dCmdsFrom_cons, Bool.and_eq_true, Bool.and_eq_true] at h
    rcases List.mem_cons.mp m with rfl | m
    · exact h.1.1
    · exact dCmdsFrom_all h.2 e m
def lastC : Option Int → List PyData → Option Int
  | b, [] => b
  | _, d :: r => lastC (some (dClient d)) r
theorem lastC_snoc : ∀ (ds : List PyData) (b : Option Int) (d : PyData), lastC b (ds ++ [d]) = some (dClient d)
  | [], _, _ => rfl
  | _ :: r, _, d => lastC_snoc r _ d
theorem dCmdsFrom_snoc : ∀ (ds : List PyData) (b : Option Int) (d : PyData), dCmdsFrom b (ds ++ [d]) = (dCmdsFrom b ds && (dCmd d && dAfter (lastC b ds) d))
  | [], b, d => by
    show dCmdsFrom b [d] = _
    rw [dCmdsFrom_cons, dCmdsFrom_nil, dCmdsFrom_nil, Bool.and_true, Bool.true_and]; rfl
  | e :: r, b, d => by
    show dCmdsFrom b (e :: (r ++ [d])) = _
    rw [dCmdsFrom_cons, dCmdsFrom_snoc r, dCmdsFrom_cons, Bool.and_assoc, Bool.and_assoc, Bool.and_assoc]; rfl
end
theorem noLs_all : ∀ {ds : List PyData}, (∀ d ∈ ds, noL d = true) → noLs ds = true
  | [], _ => rfl
  | d :: r, h => by
    show (noL d && noLs r) = true
    rw [h d List.mem_cons_self, noLs_all (fun e he => h e (List.mem_cons_of_mem _ he))]; rfl

/-! ### slices and sums of tuples, as data -/
def cutD (ds : List PyData) (lo hi : Option Int) : List PyData := (ds.drop (HT.sIx ds.length 0 lo)).take (HT.sIx ds.length ds.length hi - HT.sIx ds.length 0 lo)
theorem DtAll.drop {K : PySem.W.Frag} {H : Hp} {A : Option Addr} : ∀ {xs : List V} {ds : List PyData} (n : Nat), DtAll K H A xs ds → DtAll K H A (xs.drop n) (ds.drop n)
  | _, _, 0, h => h
  | _, _, _ + 1, .nil => .nil
  | _, _, n + 1, .cons _ r => r.drop n
theorem DtAll.take {K : PySem.W.Frag} {H : Hp} {A : Option Addr} : ∀ {xs : List V} {ds : List PyData} (n : Nat), DtAll K H A xs ds → DtAll K H A (xs.take n) (ds.take n)
  | _, _, 0, _ => by rw [List.take_zero, List.take_zero]; exact .nil
  | _, _, _ + 1, .nil => .nil
  | _, _, n + 1, .cons h r => .cons h (r.take n)
theorem DtAll.app {K : PySem.W.Frag} {H : Hp} {A : Option Addr} : ∀ {xs ys : List V} {ds es : List PyData}, DtAll K H A xs ds → DtAll K H A ys es → DtAll K H A (xs ++ ys) (ds ++ es)
  | _, _, _, _, .nil, h => h
  | _, _, _, _, .cons h r, h2 => .cons h (r.app h2)
theorem sl_dt {K : PySem.W.Frag} {H : Hp} {b : Addr} {xs : List V} {ds : List PyData} {lo hi : Option Int} {Q : VK} (ha : TupAt K H b xs) (hx : DtAll K H none xs ds) (q : ∀ H' v, Same H H' → Dt K H' none v (.tuple (cutD ds lo hi)) → Q v H') : rSlA K (.ref b) lo hi H Q := by
  have hl := hx.length
  refine ⟨b, xs, rfl, ha.sq, fun hw => q _ _ (Same.refl H) ?_, fun _ p hp => q _ _ (same_upd hp) (.tup (.inl upd_same) ?_)⟩
  · have e : cutD ds lo hi = ds := by
      unfold cutD
      rw [← hl, hw.1, hw.2, List.drop_zero, Nat.sub_zero, hl, List.take_of_length_le (Nat.le_refl _)]
    rw [e]
    exact .tup ha hx
  · unfold cutV cutD
    rw [← hl]
    exact ((hx.drop _).take _).on (same_upd hp)
theorem cat_dt {K : PySem.W.Frag} {H : Hp} {v u : V} {ds es : List PyData} {Q : VK} (hv : Dt K H none v (.tuple ds)) (hu : Dt K H none u (.tuple es)) (hl : ds.length + es.length ≤ 100000) (q : ∀ H' v', Same H H' → Dt K H' none v' (.tuple (ds ++ es)) → Q v' H') : rCatA K v u H Q := by
  cases hv with
  | tup ha hx =>
    cases hu with
    | tup hb hy =>
      rename_i a xs b ys
      have l1 := hx.length
      have l2 := hy.length
      refine ⟨a, b, xs, ys, rfl, rfl, ha.sq, hb.sq, sz1000 (by omega), fun e => q _ _ (Same.refl H) ?_, fun _ e => q _ _ (Same.refl H) ?_, fun _ _ p hp => q _ _ (same_upd hp) (.tup (.inl upd_same) ((hx.app hy).on (same_upd hp)))⟩
      · rw [e] at l1
        rw [List.length_eq_zero_iff.mp l1.symm]
        exact .tup hb hy
      · rw [e] at l2
        rw [List.length_eq_zero_iff.mp l2.symm, List.append_nil]
        exact .tup ha hx
theorem cutD_take (ds : List PyData) (j : Nat) : cutD ds none (some (j : Int)) = ds.take j := by
  unfold cutD
  rw [HT.sIx_nat, HT.sIx_none, List.drop_zero, Nat.sub_zero]
  rcases Nat.le_total j ds.length with h | h
  · rw [Nat.min_eq_left h]
  · rw [Nat.min_eq_right h, List.take_of_length_le (Nat.le_refl _), List.take_of_length_le h]
theorem cutD_drop (ds : List PyData) (j : Nat) : cutD ds (some (j : Int)) none = ds.drop j := by
  unfold cutD
  rw [HT.sIx_nat, HT.sIx_none]
  rcases Nat.le_total j ds.length with h | h
  · rw [Nat.min_eq_left h, List.take_of_length_le (by rw [List.length_drop]; exact Nat.le_refl _)]
  · rw [Nat.min_eq_right h, Nat.sub_self, List.take_zero, List.drop_of_length_le h]

theorem atI_lt {α : Type} {xs : List α} {i : Int} (h0 : 0 ≤ i) (h1 : i < xs.length) : ∃ v, v ∈ xs ∧ atI xs i = some v := by
  obtain ⟨j, rfl⟩ := Int.eq_ofNat_of_zero_le h0
  have hj : j < xs.length := Int.ofNat_lt.mp h1
  exact ⟨xs[j], List.getElem_mem hj, atI_nat (List.getElem?_eq_getElem hj)⟩

/-! ### dicts as lists of pairs -/
section
variable {κ α : Type} [DecidableEq κ]
def gA (ks : List (κ × α)) (c : κ) : Option α := (ks.find? fun k => decide (k.1 = c)).map (·.2)
def pA (ks : List (κ × α)) (c : κ) (x : α) : List (κ × α) := if (ks.any fun k => decide (k.1 = c)) = true then ks.map (fun k => if k.1 = c then (k.1, x) else k) else ks ++ [(c, x)]
/-- the pairs as they stand in a dict -/
def kvs (em : κ → Key) (f : α → V) (ks : List (κ × α)) : List (Key × V) := ks.map fun k => (em k.1, f k.2)
def kOk (ks : List (κ × α)) : Prop := (ks.map (·.1)).Nodup
theorem gA_kvs {em : κ → Key} (inj : ∀ a b, em a = em b → a = b) (f : α → V) : ∀ (ks : List (κ × α)) (c : κ), valV (kvs em f ks) (em c) = (gA ks c).map f
  | [], _ => rfl
  | k :: r, c => by
    have ih := gA_kvs inj f r c
    unfold kvs valV gA at ih ⊢
    rw [List.map_cons, List.find?_cons, List.find?_cons]
    by_cases h : k.1 = c
    · have h1 : decide (em k.1 = em c) = true := decide_eq_true (by rw [h])
      rw [h1, decide_eq_true h]; rfl
    · have h1 : decide (em k.1 = em c) = false := decide_eq_false (fun z => h (inj _ _ z))
      rw [h1, decide_eq_false h]; exact ih
theorem pA_kvs {em : κ → Key} (inj : ∀ a b, em a = em b → a = b) (f : α → V) (ks : List (κ × α)) (c : κ) (x : α) : putK (kvs em f ks) (em c) (f x) = kvs em f (pA ks c x) := by
  have e : ∀ k : κ × α, decide (em k.1 = em c) = decide (k.1 = c) := fun k => decide_eq_decide.mpr ⟨fun z => inj _ _ z, fun z => by rw [z]⟩
  unfold putK pA kvs
  rw [List.any_map, show ((fun kv : Key × V => decide (kv.1 = em c)) ∘ fun k : κ × α => (em k.1, f k.2)) = fun k => decide (k.1 = c) from funext e]
  split
  · rw [List.map_map, List.map_map]
    refine List.map_congr_left fun k _ => ?_
    show (if em k.1 = em c then (em k.1, f x) else (em k.1, f k.2)) = (fun k : κ × α => (em k.1, f k.2)) (if k.1 = c then (k.1, x) else k)
    by_cases h : k.1 = c
    · rw [if_pos h, if_pos (by rw [h])]
    · rw [if_neg h, if_neg (fun z => h (inj _ _ z))]
  · rw [List.map_append]; rfl
theorem pA_len (ks : List (κ × α)) (c : κ) (x : α) : (pA ks c x).length ≤ ks.length + 1 := by
  unfold pA
  split
  · rw [List.length_map]; omega
  · rw [List.length_append]; exact Nat.le_refl _
theorem kvs_len (em : κ → Key) (f : α → V) (ks : List (κ × α)) : (kvs em f ks).length = ks.length := List.length_map _
theorem any_mem {ks : List (κ × α)} {c : κ} : (ks.any fun k => decide (k.1 = c)) = true ↔ c ∈ ks.map (·.1) := by
  rw [List.any_eq_true, List.mem_map]
  constructor
  · rintro ⟨k, hk, e⟩; exact ⟨k, hk, of_decide_eq_true e⟩
  · rintro ⟨k, hk, e⟩; exact ⟨k, hk, decide_eq_true e⟩
theorem pA_keys (ks : List (κ × α)) (c : κ) (x : α) : (pA ks c x).map (·.1) = if c ∈ ks.map (·.1) then ks.map (·.1) else ks.map (·.1) ++ [c] := by
  unfold pA
  by_cases h : c ∈ ks.map (·.1)
  · rw [if_pos (any_mem.mpr h), if_pos h, List.map_map]
    refine List.map_congr_left fun k _ => ?_
    show (if k.1 = c then (k.1, x) else k).1 = k.1
    split <;> rfl
  · rw [if_neg (fun z => h (any_mem.mp z)), if_neg h, List.map_append]; rfl
theorem pA_ok {ks : List (κ × α)} (c : κ) (x : α) (h : kOk ks) : kOk (pA ks c x) := by
  unfold kOk at *
  rw [pA_keys]
  split
  · exact h
  · rename_i hn
    rw [List.nodup_append]
    refine ⟨h, by simp, fun a ha b hb => ?_⟩
    have hb : b = c := by simpa using hb
    rw [hb]
    intro e
    exact hn (e ▸ ha)
theorem gA_none {ks : List (κ × α)} {c : κ} : gA ks c = none ↔ c ∉ ks.map (·.1) := by
  unfold gA
  rw [Option.map_eq_none_iff, List.find?_eq_none]
  constructor
  · intro h m
    obtain ⟨k, hk, e⟩ := List.mem_map.mp m
    exact h k hk (decide_eq_true e)
  · intro h k hk e
    exact h (List.mem_map.mpr ⟨k, hk, of_decide_eq_true e⟩)
theorem gA_mem : ∀ {ks : List (κ × α)} {k : κ × α}, kOk ks → k ∈ ks → gA ks k.1 = some k.2
  | q :: r, k, h, m => by
    unfold kOk at h
    rw [List.map_cons, List.nodup_cons] at h
    unfold gA
    rw [List.find?_cons]
    rcases List.mem_cons.mp m with rfl | m
    · rw [decide_eq_true rfl]; rfl
    · by_cases e : q.1 = k.1
      · exact absurd (e ▸ List.mem_map_of_mem (f := (·.1)) m) h.1
      · rw [decide_eq_false e]
        exact gA_mem (ks := r) h.2 m
theorem gA_some {ks : List (κ × α)} {c : κ} {x : α} (h : gA ks c = some x) : (c, x) ∈ ks := by
  unfold gA at h
  rw [Option.map_eq_some_iff] at h
  obtain ⟨k, h1, rfl⟩ := h
  have h2 := List.find?_some h1
  have h3 := List.mem_of_find?_eq_some h1
  have : k.1 = c := of_decide_eq_true h2
  rw [← this]; exact h3
theorem pA_mem {ks : List (κ × α)} {c : κ} {x : α} {k : κ × α} (h : k ∈ pA ks c x) : k = (c, x) ∨ (k ∈ ks ∧ k.1 ≠ c) := by
  unfold pA at h
  split at h
  · obtain ⟨q, hq, e⟩ := List.mem_map.mp h
    by_cases hc : q.1 = c
    · rw [if_pos hc] at e; exact .inl (by rw [← e, hc])
    · rw [if_neg hc] at e; subst e; exact .inr ⟨hq, hc⟩
  · rename_i hn
    rcases List.mem_append.mp h with h | h
    · exact .inr ⟨h, fun e => hn (any_mem.mpr (List.mem_map.mpr ⟨k, h, e⟩))⟩
    · exact .inl (List.mem_singleton.mp h)
theorem gA_put {ks : List (κ × α)} (h : kOk ks) (c d : κ) (x : α) : gA (pA ks c x) d = if d = c then some x else gA ks d := by
  have h2 := pA_ok c x h
  by_cases e : d = c
  · subst e
    rw [if_pos rfl]
    have hm : d ∈ (pA ks d x).map (·.1) := by
      rw [pA_keys]; split
      · assumption
      · exact List.mem_append_right _ (List.mem_singleton.mpr rfl)
    obtain ⟨k, hk, ek⟩ := List.mem_map.mp hm
    have := gA_mem h2 hk
    rw [ek] at this
    rw [this]
    rcases pA_mem hk with e | ⟨_, e⟩
    · rw [e]
    · exact absurd ek e
  · rw [if_neg e]
    cases g : gA ks d with
    | none =>
      rw [gA_none] at g ⊢
      rw [pA_keys]
      split
      · exact g
      · intro m
        rcases List.mem_append.mp m with m | m
        · exact g m
        · exact e (List.mem_singleton.mp m)
    | some y =>
      have hm := gA_some g
      have : (d, y) ∈ pA ks c x := by
        unfold pA
        split
        · exact List.mem_map.mpr ⟨(d, y), hm, if_neg e⟩
        · exact List.mem_append_left _ hm
      exact gA_mem h2 this
theorem kvs_keys {em : κ → Key} {f : α → V} {ks : List (κ × α)} : (kvs em f ks).map (·.1) = (ks.map (·.1)).map em := by
  unfold kvs
  rw [List.map_map, List.map_map]; rfl
end
theorem inlI : ∀ a b : Int, (Sum.inl a : Key) = Sum.inl b → a = b := fun _ _ z => Sum.inl.inj z
theorem inrI : ∀ a b : Str, (Sum.inr a : Key) = Sum.inr b → a = b := fun _ _ z => Sum.inr.inj z

/-! ### data for comparisons: shape and depth -/
def Ly (k : Nat) (d : PyData) : Prop := d.canLay0 = true ∧ d.depth ≤ k
theorem ly_all {k : Nat} : ∀ {ds : List PyData}, (∀ d ∈ ds, Ly k d) → PyData.canLayAll0 ds = true ∧ PyData.depthAll ds ≤ k
  | [], _ => ⟨by simp [PyData.canLayAll0], by simp [PyData.depthAll]⟩
  | d :: r, h => by
    obtain ⟨i1, i2⟩ := ly_all fun z hz => h z (List.mem_cons_of_mem _ hz)
    obtain ⟨l1, l2⟩ := h d List.mem_cons_self
    constructor
    · rw [PyData.canLayAll0, i1, l1]; rfl
    · rw [PyData.depthAll]; omega
theorem ly_tup {k : Nat} {ds : List PyData} (h : ∀ d ∈ ds, Ly k d) : Ly (k + 1) (.tuple ds) := by
  obtain ⟨a, b⟩ := ly_all h
  exact ⟨by rw [PyData.canLay0]; exact a, by rw [PyData.depth]; omega⟩
theorem ly_lst {k : Nat} {ds : List PyData} (h : ∀ d ∈ ds, Ly k d) : Ly (k + 1) (.list ds) := by
  obtain ⟨a, b⟩ := ly_all h
  exact ⟨by rw [PyData.canLay0]; exact a, by rw [PyData.depth]; omega⟩
theorem ly_int {k : Nat} (i : Int) : Ly k (.int i) := ⟨by simp [PyData.canLay0], by simp [PyData.depth]⟩
theorem ly_non {k : Nat} : Ly k .none := ⟨by simp [PyData.canLay0], by simp [PyData.depth]⟩
theorem ly_bl {k : Nat} (b : Bool) : Ly k (.bool b) := ⟨by simp [PyData.canLay0], by simp [PyData.depth]⟩
theorem ly_str {k : Nat} {z : Str} (h : PyData.strOk z = true) : Ly k (.str z) := ⟨by simp [PyData.canLay0, h], by simp [PyData.depth]⟩
theorem Ly.mono {k j : Nat} {d : PyData} (h : Ly k d) (le : k ≤ j) : Ly j d := ⟨h.1, Nat.le_trans h.2 le⟩
theorem ly_nil {k : Nat} : ∀ d ∈ ([] : List PyData), Ly k d := fun _ m => nomatch m
theorem ly_cons {k : Nat} {d : PyData} {r : List PyData} (h : Ly k d) (hr : ∀ d ∈ r, Ly k d) : ∀ e ∈ d :: r, Ly k e := fun e m => by
  rcases List.mem_cons.mp m with rfl | m
  · exact h
  · exact hr e m
theorem ly_app {k : Nat} {r s : List PyData} (hr : ∀ d ∈ r, Ly k d) (hs : ∀ d ∈ s, Ly k d) : ∀ e ∈ r ++ s, Ly k e := fun e m => by
  rcases List.mem_append.mp m with m | m
  · exact hr e m
  · exact hs e m
theorem shpL {d : PyData} (h : Ly 20 d) : SeqAt.shaped d = true ∧ PyData.eqv d d = true := by
  refine ⟨?_, SeqAt.eqv_refl _ h.1⟩
  unfold SeqAt.shaped
  rw [h.1, decide_eq_true (by have := h.2; omega)]; rfl

theorem unlock_same {H H' : Hp} {d : Addr} {od : Obj} {u : HO} (hd : H d = some u) (s : Same (upd H d (.frz od u)) H') : Same H (upd H' d u) := fun b o e => by
  by_cases h : b = d
  · subst h; rw [upd_same]; rw [hd] at e; exact e
  · rw [upd_ne h]; exact s _ _ (by rw [upd_ne h]; exact e)
theorem tp_unlock {H' : Hp} {d : Addr} {od : Obj} {u v : HO} (hd : H' d = some (.frz od v)) : Tp H' (upd H' d u) := fun a xs e => by
  rw [upd_ne (ne_of e hd (by intro z; cases z))]; exact e
theorem tp_lockT {H : Hp} {d : Addr} {od : Obj} {kv : List (List Key × V)} {u : HO} (hd : H d = some (.dT kv)) : Tp H (upd H d u) := fun a xs e => by
  rw [upd_ne (ne_of e hd (by intro z; cases z))]; exact e

theorem inV_int (a : Int) (ys : List Int) : inV (.int a) (ys.map V.int) = decide (a ∈ ys) := by
  unfold inV
  rw [List.any_map]
  induction ys with
  | nil => rfl
  | cons y r ih =>
    rw [List.any_cons, ih]
    by_cases h : y = a
    · subst h
      simp [eqV]
    · have h' : ¬ a = y := fun e => h e.symm
      simp [eqV, h, h']
theorem flat_ints (ys : List Int) : (ys.map V.int).all flatV = true := by
  rw [List.all_map, List.all_eq_true]
  intro x _
  rfl

/-! ### comprehensions over a list or a range, as data -/
section
variable {K : PySem.W.Frag}
theorem filterMap_take {α β : Type} (F : α → Option β) (ds : List α) {i : Nat} {d : α} (h : ds[i]? = some d) : (ds.take (i + 1)).filterMap F = (ds.take i).filterMap F ++ (F d).toList := by
  rw [List.take_add_one, h, List.filterMap_append]
  congr 1
theorem noLs_app {xs ys : List PyData} (h1 : noLs xs = true) (h2 : noLs ys = true) : noLs (xs ++ ys) = true := noLs_all fun d hd => by
  rcases List.mem_append.mp hd with h | h
  · exact noLs_mem' h1 h
  · exact noLs_mem' h2 h
where noLs_mem' : ∀ {ds : List PyData} {d : PyData}, noLs ds = true → d ∈ ds → noL d = true
  | e :: r, d, h, m => by
    have h : (noL e && noLs r) = true := h
    rw [Bool.and_eq_true] at h
    rcases List.mem_cons.mp m with rfl | m
    · exact h.1
    · exact noLs_mem' h.2 m
/-- over a walk whose items are told by P -/
theorem lc_walk {α : Type} {J : It} {n : Nat} {G : Hp → Prop} {Y : Nat → Hp → V → Hp → Prop} (w : Walk J n G Y) {g : TG} {tt : TT} {te : TE} {vs : List Nat} {σ : L2.St} {H1 : Hp} {D : Addr} {Qd : Hp → Prop} (hD : H1 D = none) (ds : List α) (hl : ds.length = n) (hn : n ≤ 100000) (F : α → Option PyData)
    (hF : ∀ d e, d ∈ ds → F d = some e → noL e = true)
    (hG : ∀ H', Same H1 H' → G H') (hY : ∀ i H x H', Y i H x H' → H' = H)
    (hs : ∀ i x d H7, i < n → ds[i]? = some d → Same H1 H7 → Y i H7 x H7 → ∀ (R : V → Hp → Prop) (R0 : Hp → Prop), (∀ e, F d = some e → ∀ y H8, Same H7 H8 → Dt K H8 none y e → R y H8) → (F d = none → ∀ H8, Same H7 H8 → R0 H8) →
      g x (wipe σ vs) H7 fun σ2 H2 => wipe σ2 vs = wipe σ vs ∧ tt σ2 H2 fun b H3 => if b = true then te σ2 H3 R else R0 H3)
    (hd : ∀ H' xs', Same H1 H' → H' D = some (.lst xs') → DtAll K H' none xs' (ds.filterMap F) → Qd H') :
    ∃ W : Nat → Nat → Hp → Prop, (∃ m, W 0 m (upd H1 D (.lst []))) ∧ ∀ i m H, W i m H →
      (J.stop i H ∧ Qd H) ∨ (J.go i H ∧ ∃ Nx : Hp → Prop, (∀ H', Nx H' → ∃ m', m' < m ∧ W (i + 1) m' H') ∧ ∀ x H', J.yld i H x H' → g x (wipe σ vs) H' fun σ2 H2 => wipe σ2 vs = wipe σ vs ∧ tt σ2 H2 fun b H3 =>
        if b = true then te σ2 H3 fun y H4 => ∃ acc, H4 D = some (.lst acc) ∧ acc.length < sizeLine ∧ Nx (upd H4 D (.lst (acc ++ [y]))) else Nx H3) := by
  refine lc_it w (Pv := fun i H' => ∃ xs', Same H1 H' ∧ H' D = some (.lst xs') ∧ DtAll K H' none xs' ((ds.take i).filterMap F)) ⟨[], same_upd hD, upd_same, .nil⟩ (fun i H _ h => by obtain ⟨_, h, _⟩ := h; exact hG _ h) (fun i x H6 H7 hi hp hy => ?_) (fun H6 hp => ?_)
  · obtain ⟨xs', s6, hD6, hx6⟩ := hp
    obtain rfl := hY i H6 x H7 hy
    obtain ⟨d, gd⟩ : ∃ d, ds[i]? = some d := ⟨_, List.getElem?_eq_getElem (by omega)⟩
    have hx7 := filterMap_take F ds gd
    have hnl : noLs ((ds.take i).filterMap F) = true := noLs_all fun e he => by
      obtain ⟨d', hd', e'⟩ := List.mem_filterMap.mp he
      exact hF d' e (List.mem_of_mem_take hd') e'
    have hll : xs'.length ≤ i := by
      rw [hx6.length]
      have := List.length_filterMap_le F (ds.take i)
      rw [List.length_take] at this
      omega
    refine hs i x d H7 hi gd s6 hy _ _ (fun e he y H8 s8 hdy => ?_) (fun he H8 s8 => ?_)
    · have hD8 := s8 _ _ hD6
      refine ⟨xs', hD8, sz1000' (by omega), xs' ++ [y], same_mut (s6.trans s8) hD, upd_same, ?_⟩
      rw [hx7, he]
      have hne := hF d e (List.mem_of_getElem? gd) he
      exact DtAll.keep (A := none) (tp_put hD8) _ _ (noLs_app hnl (by show (noL e && true) = true; rw [hne]; rfl)) ((hx6.on s8).snoc hdy)
    · refine ⟨xs', s6.trans s8, s8 _ _ hD6, ?_⟩
      rw [hx7, he]
      show DtAll K H8 none xs' (_ ++ [])
      rw [List.append_nil]
      exact hx6.on s8
  · obtain ⟨xs', s6, hD6, hx6⟩ := hp
    rw [List.take_of_length_le (by omega)] at hx6
    exact hd _ _ s6 hD6 hx6
/-- over a list of data -/
theorem lc_list_dt {g : TG} {tt : TT} {te : TE} {vs : List Nat} {σ : L2.St} {H1 : Hp} {D a : Addr} {xs : List V} {ds : List PyData} {Qd : Hp → Prop} (hD : H1 D = none) (hq : SqL K H1 a xs) (hx : DtAll K H1 none xs ds) (hn : xs.length ≤ 100000) (F : PyData → Option PyData)
    (hF : ∀ d e, d ∈ ds → F d = some e → noL e = true)
    (hs : ∀ x d H7, d ∈ ds → Same H1 H7 → Dt K H7 none x d → ∀ (R : V → Hp → Prop) (R0 : Hp → Prop), (∀ e, F d = some e → ∀ y H8, Same H7 H8 → Dt K H8 none y e → R y H8) → (F d = none → ∀ H8, Same H7 H8 → R0 H8) →
      g x (wipe σ vs) H7 fun σ2 H2 => wipe σ2 vs = wipe σ vs ∧ tt σ2 H2 fun b H3 => if b = true then te σ2 H3 R else R0 H3)
    (hd : ∀ H' xs', Same H1 H' → H' D = some (.lst xs') → DtAll K H' none xs' (ds.filterMap F) → Qd H') :
    ∃ W : Nat → Nat → Hp → Prop, (∃ m, W 0 m (upd H1 D (.lst []))) ∧ ∀ i m H, W i m H →
      ((Itl K a).stop i H ∧ Qd H) ∨ ((Itl K a).go i H ∧ ∃ Nx : Hp → Prop, (∀ H', Nx H' → ∃ m', m' < m ∧ W (i + 1) m' H') ∧ ∀ x H', (Itl K a).yld i H x H' → g x (wipe σ vs) H' fun σ2 H2 => wipe σ2 vs = wipe σ vs ∧ tt σ2 H2 fun b H3 =>
        if b = true then te σ2 H3 fun y H4 => ∃ acc, H4 D = some (.lst acc) ∧ acc.length < sizeLine ∧ Nx (upd H4 D (.lst (acc ++ [y]))) else Nx H3) :=
  lc_walk (K := K) walk_list hD ds hx.length.symm hn F hF (fun _ s => s.seq hq) (fun _ _ _ _ y => y.1) (fun i x d H7 hi gd s7 hy R R0 => hs x d H7 (List.mem_of_getElem? gd) s7 (by
    obtain ⟨d', g', hd'⟩ := hx.get hy.2
    rw [gd] at g'
    cases g'
    exact hd'.on s7) R R0) hd
/-- over a range -/
theorem lc_range_dt {g : TG} {tt : TT} {te : TE} {vs : List Nat} {σ : L2.St} {H1 : Hp} {D : Addr} {lo : Int} {n : Nat} {Qd : Hp → Prop} (hD : H1 D = none) (hn : n ≤ 100000) (F : Nat → Option PyData)
    (hF : ∀ d e, d < n → F d = some e → noL e = true)
    (hs : ∀ i H7, i < n → Same H1 H7 → ∀ (R : V → Hp → Prop) (R0 : Hp → Prop), (∀ e, F i = some e → ∀ y H8, Same H7 H8 → Dt K H8 none y e → R y H8) → (F i = none → ∀ H8, Same H7 H8 → R0 H8) →
      g (.int (lo + i)) (wipe σ vs) H7 fun σ2 H2 => wipe σ2 vs = wipe σ vs ∧ tt σ2 H2 fun b H3 => if b = true then te σ2 H3 R else R0 H3)
    (hd : ∀ H' xs', Same H1 H' → H' D = some (.lst xs') → DtAll K H' none xs' ((List.range n).filterMap F) → Qd H') :
    ∃ W : Nat → Nat → Hp → Prop, (∃ m, W 0 m (upd H1 D (.lst []))) ∧ ∀ i m H, W i m H →
      ((Itr lo n).stop i H ∧ Qd H) ∨ ((Itr lo n).go i H ∧ ∃ Nx : Hp → Prop, (∀ H', Nx H' → ∃ m', m' < m ∧ W (i + 1) m' H') ∧ ∀ x H', (Itr lo n).yld i H x H' → g x (wipe σ vs) H' fun σ2 H2 => wipe σ2 vs = wipe σ vs ∧ tt σ2 H2 fun b H3 =>
        if b = true then te σ2 H3 fun y H4 => ∃ acc, H4 D = some (.lst acc) ∧ acc.length < sizeLine ∧ Nx (upd H4 D (.lst (acc ++ [y]))) else Nx H3) :=
  lc_walk (K := K) walk_range hD (List.range n) List.length_range hn F (fun d e hd he => hF d e (List.mem_range.mp hd) he) (fun _ _ => trivial) (fun _ _ _ _ y => y.1) (fun i x d H7 hi gd s7 hy R R0 h1 h2 => by
    obtain ⟨_, rfl⟩ := hy
    rw [List.getElem?_range hi] at gd
    cases gd
    exact hs i H7 hi s7 R R0 h1 h2) hd
end

/-! ### the draws of a script, by its cells -/
def cellA (ns : List Int) (k : Nat) : Int := ((ns.getD k 0).natAbs : Int)
theorem cellA_nonneg (ns : List Int) (k : Nat) : 0 ≤ cellA ns k := Int.natCast_nonneg _
def spCellA (K : PySem.W.Frag) : Sp := fun vs H Q _ => ∃ (a : Addr) (ns : List Int) (k : Nat), vs = [.ref a, .int k] ∧ SqL K H a (ns.map V.int) ∧ Q (.int (cellA ns k)) H
def spDraws2 (K : PySem.W.Frag) : Sp := fun vs H Q _ => ∃ (a : Addr) (ns : List Int) (st most : Nat), vs = [.ref a, .int st, .int most] ∧ SqL K H a (ns.map V.int) ∧ ns.length ≤ 63 ∧
  ∀ (H' : Hp) (D : Addr) (ds : List Int), Same H H' → H D = none → H' D = some (.lst (ds.map V.int)) → (∀ d ∈ ds, 0 ≤ d ∧ d < 1000000000000000000) → ds.length ≤ most → Q (.ref D) H'
theorem same_none {H H' : Hp} {p : Addr} (s : Same H H') (h : H' p = none) : H p = none := by
  cases e : H p with
  | none => rfl
  | some o => rw [s p o e] at h; cases h

theorem abs_natAbs (i : Int) : (if i < 0 then -i else i) = (i.natAbs : Int) := by split <;> omega
theorem rng_app2 {ds : List Int} {x : Int} (h : ∀ d ∈ ds, 0 ≤ d ∧ d < 1000000000000000000) (h0 : 0 ≤ x) (h1 : x < 1000000000000000000) : ∀ d ∈ ds ++ [x], 0 ≤ d ∧ d < 1000000000000000000 := fun d hd => by
  rcases List.mem_append.mp hd with hd | hd
  · exact h d hd
  · rw [List.mem_singleton.mp hd]; exact ⟨h0, h1⟩
theorem cutV_map {α : Type} (f : α → V) (xs : List α) (lo hi : Option Int) : ∃ ys : List α, cutV (xs.map f) lo hi = ys.map f ∧ ys.length ≤ xs.length ∧ (∀ y ∈ ys, y ∈ xs) := by
  refine ⟨(xs.drop (HT.sIx xs.length 0 lo)).take (HT.sIx xs.length xs.length hi - HT.sIx xs.length 0 lo), ?_, ?_, ?_⟩
  · unfold cutV
    rw [List.length_map, List.map_take, List.map_drop]
  · rw [List.length_take, List.length_drop]; omega
  · intro y hy
    exact List.mem_of_mem_drop (List.mem_of_mem_take hy)
theorem cutV_most (xs : List Int) (m : Nat) : ∃ ys : List Int, cutV (xs.map V.int) none (some (m : Int)) = ys.map V.int ∧ ys.length ≤ m ∧ (∀ y ∈ ys, y ∈ xs) := by
  obtain ⟨ys, e, _, h⟩ := cutV_map V.int xs none (some (m : Int))
  refine ⟨ys, e, ?_, h⟩
  have hl := congrArg List.length e
  rw [List.length_map] at hl
  rw [← hl]
  unfold cutV
  rw [List.length_take, List.length_drop]
  have : HT.sIx (xs.map V.int).length (xs.map V.int).length (some (m : Int)) ≤ m := by
    rw [HT.sIx_nat]
    exact Nat.min_le_left _ _
  omega
section
variable {P : Program} {w : World} {K : PySem.W.Frag} {mg : Str → Option Value} {base : Heap}
theorem c__law_cell {C_Chain : Addr} {C_BadBlock : Addr} (T : Txt K mg C_Chain C_BadBlock) : Cal P w K mg base 1 "_law_cell" (spCellA K) [] := by
  refine cal T.d__law_cell sc__law_cell (fun vs H Q E h => ?_) (fun f cdv A outer s H vs Q E hr h => ?_)
  · obtain ⟨a, ns, k, rfl, _⟩ := h; rfl
  obtain ⟨a, ns, k, rfl, hS, q⟩ := h
  refine ⟨_, (pss_cons (ps_if (pt_cmpR op_lt (pv 1) (pe_callB (klen (K := K)) (by rfl) T.z_len (by decide +kernel) (pa_cons (pv 0) pa_nil)) (nomark _)) (pss_one (ps_ret (pe_callB call_abs (by rfl) T.z_abs (by decide +kernel) (pa_cons (pe_callTy call_int1 (by rfl) T.z_int (by decide +kernel) (pa_cons (pe_ix (kixl (K := K)) (pv 0) (pv 1) (fun _ _ => rfl)) pa_nil)) pa_nil)))) pss_nil)
      (pss_one (ps_ret pe_int))), ?_⟩
  refine ⟨.int k, rfl, .ref a, rfl, a, _, rfl, .inl hS, _, _, rfl, rfl, _, rfl, ite2 (fun e => ?_) (fun e => ?_)⟩
  · have e := of_decide_eq_true e
    rw [List.length_map] at e
    have e1 : k < ns.length := by omega
    have g : (ns.map V.int)[k]? = some (.int (ns.getD k 0)) := by
      rw [List.getElem?_map, List.getD_eq_getElem?_getD, List.getElem?_eq_getElem e1]; rfl
    refine ⟨.ref a, rfl, .int k, rfl, a, _, _, _, rfl, rfl, hS, atI_nat g, ?_⟩
    walk_at "rds"
    rw [abs_natAbs]
    exact q
  · have e2 : ¬ ((k : Int) < ((ns.map V.int).length : Int)) := fun z => e (decide_eq_true z)
    rw [List.length_map] at e2
    have e1 : ns.getD k 0 = 0 := by
      rw [List.getD_eq_getElem?_getD, List.getElem?_eq_none (by omega)]; rfl
    unfold cellA at q
    rw [e1] at q
    exact q
theorem c__law_draws {C_Chain : Addr} {C_BadBlock : Addr} (T : Txt K mg C_Chain C_BadBlock) : Cal P w K mg base 1 "_law_draws" (spDraws2 K) [] := by
  refine cal T.d__law_draws sc__law_draws (fun vs H Q E h => ?_) (fun f cdv A outer s H vs Q E hr h => ?_)
  · obtain ⟨a, ns, st, most, rfl, _⟩ := h; rfl
  obtain ⟨a, ns, st, most, rfl, hS, hlen, q⟩ := h
  refine ⟨_, (pss_cons (ps_set (i := 3) sc__law_draws.nd rfl (Or.inl rfl) (pe_lst pa_nil))
      (pss_cons (ps_for PassesOwn.never rfl (pi_list (pe_slice (ksll (K := K)) (pv 0) (po_some (pv 1)) po_none)) (pg_name (i := 4) sc__law_draws.nd rfl (Or.inl rfl)) (pss_cons (ps_set (i := 5) sc__law_draws.nd rfl (Or.inl rfl) (pe_callB call_abs (by rfl) T.z_abs (by decide +kernel) (pa_cons (pe_callTy call_int1 (by rfl) T.z_int (by decide +kernel) (pa_cons (pv 4) pa_nil)) pa_nil)))
      (pss_one (ps_if (pt_cmpR op_lt (pv 5) (pe_op op_pow pe_int pe_int) (nomark _)) (pss_cons (ps_set (i := 6) sc__law_draws.nd rfl (Or.inl rfl) (pe_op op_mod (pe_callTy call_int1 (by rfl) T.z_int (by decide +kernel) (pa_cons (pe_op op_add (pe_op op_mul (pv 5) pe_int) pe_int) pa_nil)) pe_int))
      (pss_cons (ps_expr (pe_bm PySem.F.plainAttrs_list PySem.F.slot_list_append PySem.F.type_list_append mt_append (pv 3) (pa_cons (pv 5) pa_nil)))
      (pss_cons (ps_expr (pe_bm PySem.F.plainAttrs_list PySem.F.slot_list_append PySem.F.type_list_append mt_append (pv 3) (pa_cons (pe_op op_fdiv (pe_op op_mod (pe_callTy call_int1 (by rfl) T.z_int (by decide +kernel) (pa_cons (pe_op op_add (pe_op op_add (pe_op op_mul (pv 6) pe_int) (pe_op op_fdiv (pv 5) pe_int)) pe_int) pa_nil)) pe_int) pe_int) pa_nil)))
      (pss_one (ps_expr (pe_bm PySem.F.plainAttrs_list PySem.F.slot_list_append PySem.F.type_list_append mt_append (pv 3) (pa_cons (pe_op op_fdiv (pe_op op_mod (pe_callTy call_int1 (by rfl) T.z_int (by decide +kernel) (pa_cons (pe_op op_add (pe_op op_add (pe_op op_mul (pv 6) pe_int) (pe_op op_fdiv (pv 5) pe_int)) pe_int) pa_nil)) pe_int) pe_int) pa_nil))))))) (pss_one (ps_for PassesOwn.never rfl (pi_range1 (by rfl) T.z_range (pa_cons pe_int pa_nil)) (pg_name (i := 7) sc__law_draws.nd rfl (Or.inl rfl)) (pss_cons (ps_if (pt_cmpR op_gt (pv 5) pe_int (nomark _)) (pss_one (ps_expr (pe_bm PySem.F.plainAttrs_list PySem.F.slot_list_append PySem.F.type_list_append mt_append (pv 3) (pa_cons (pe_op op_mod (pe_callTy call_int1 (by rfl) T.z_int (by decide +kernel) (pa_cons (pv 5) pa_nil)) pe_int) pa_nil)))) pss_nil)
      (pss_one (ps_set (i := 5) sc__law_draws.nd rfl (Or.inl rfl) (pe_op op_fdiv (pv 5) pe_int))))))))))
      (pss_one (ps_ret (pe_slice (ksll (K := K)) (pv 3) po_none (po_some (pv 2))))))), ?_⟩
  refine ⟨by decide, fun D hD => ?_⟩
  walk_at "rds"
  refine ⟨a, _, rfl, (same_upd hD).seq hS, fun p hp => ?_⟩
  obtain ⟨cs, ecs, hcl, _⟩ := cutV_map V.int ns (some (st : Int)) none
  rw [ecs]
  have sp : Same H (upd (upd H D (.lst [])) p (.lst (cs.map V.int))) := (same_upd hD).trans (same_upd hp)
  have hpD : p ≠ D := fun e => by rw [e, upd_same] at hp; cases hp
  refine ⟨p, rfl, ⟨_, sq upd_same⟩, ?_⟩
  refine for_it (walk_list (K := K) (a := p) (xs := cs.map V.int)) (Pv := fun i σ H' => ∃ y4 y5 y6 y7 ds, σ = [some (.ref a), some (.int st), some (.int most), some (.ref D), y4, y5, y6, y7] ∧ Same H H' ∧ H' p = some (.lst (cs.map V.int)) ∧ H' D = some (.lst (ds.map V.int)) ∧ (∀ d ∈ ds, 0 ≤ d ∧ d < 1000000000000000000) ∧ ds.length ≤ 20 * i) ⟨none, none, none, none, [], rfl, sp, upd_same, by rw [upd_ne hpD.symm]; exact upd_same, by simp, by simp⟩ (fun i σ H' _ h => by obtain ⟨_, _, _, _, _, _, _, h, _⟩ := h; exact sq h) (fun i x σ H1 H2 hi hp' hy => ?_) (fun σ H1 hp' => ?_)
  · obtain ⟨y4, y5, y6, y7, ds, rfl, sm, hpp, hd, hrg, hl⟩ := hp'
    obtain ⟨rfl, gx⟩ := hy
    rw [List.length_map] at hi
    rw [List.getElem?_map, List.getElem?_eq_getElem hi] at gx
    obtain rfl : V.int cs[i] = x := Option.some.inj gx
    walk_at "rds"
    rw [abs_natAbs]
    have hc0 : 0 ≤ ((cs[i].natAbs : Nat) : Int) := Int.natCast_nonneg _
    generalize ((cs[i].natAbs : Nat) : Int) = c at hc0
    refine ite2 (fun e => ?_) (fun e => ?_)
    · have e : c < (10 : Int) ^ (18 : Int).toNat := of_decide_eq_true e
      have e18 : (10 : Int) ^ (18 : Int).toNat = 10 ^ 18 := rfl
      have hc1 : c < 1000000000000000000 := by omega
      walk_at "rds"
      refine ⟨.inl ⟨rfl, _, sq hd⟩, ?_⟩
      walk_at "rds"
      refine ⟨_, _, _, rfl, rfl, hd, by rw [List.length_map]; exact sz1000' (by omega), ?_⟩
      generalize c * 48271 + 11 = m0
      have hm0 : 0 ≤ m0 % 2147483647 := Int.emod_nonneg _ (by decide)
      have hm1 : m0 % 2147483647 < 2147483647 := Int.emod_lt_of_pos _ (by decide)
      have e1 : upd H2 D (.lst (ds.map V.int ++ [.int c])) D = some (.lst ((ds ++ [c]).map V.int)) := lst_app
      have s1 : Same H (upd H2 D (.lst (ds.map V.int ++ [.int c]))) := same_mut sm hD
      have p1 : (upd H2 D (.lst (ds.map V.int ++ [.int c]))) p = some (.lst (cs.map V.int)) := by rw [upd_ne hpD]; exact hpp
      have r1 := rng_app2 hrg hc0 hc1
      have l1 : (ds ++ [c]).length ≤ 20 * i + 1 := by rw [List.length_append, List.length_singleton]; omega
      generalize upd H2 D (.lst (ds.map V.int ++ [.int c])) = H3 at e1 s1 p1
      generalize ds ++ [c] = ds1 at e1 r1 l1
      walk_at "rds"
      refine ⟨.inl ⟨rfl, _, sq e1⟩, ?_⟩
      walk_at "rds"
      refine ⟨_, _, _, rfl, rfl, e1, by rw [List.length_map]; exact sz1000' (by omega), ?_⟩
      have e2 : upd H3 D (.lst (ds1.map V.int ++ [.int ((m0 % 2147483647 * 16807 + c / 9 + 3) % 2147483647 / 7)])) D = some (.lst ((ds1 ++ [((m0 % 2147483647 * 16807 + c / 9 + 3) % 2147483647 / 7)]).map V.int)) := lst_app
      have s2 : Same H (upd H3 D (.lst (ds1.map V.int ++ [.int ((m0 % 2147483647 * 16807 + c / 9 + 3) % 2147483647 / 7)]))) := same_mut s1 hD
      have p2 : (upd H3 D (.lst (ds1.map V.int ++ [.int ((m0 % 2147483647 * 16807 + c / 9 + 3) % 2147483647 / 7)]))) p = some (.lst (cs.map V.int)) := by rw [upd_ne hpD]; exact p1
      have r2 := rng_app2 (x := ((m0 % 2147483647 * 16807 + c / 9 + 3) % 2147483647 / 7)) r1 (by omega) (by omega)
      have l2 : (ds1 ++ [((m0 % 2147483647 * 16807 + c / 9 + 3) % 2147483647 / 7)]).length ≤ 20 * i + 2 := by rw [List.length_append, List.length_singleton]; omega
      generalize ds1 ++ [((m0 % 2147483647 * 16807 + c / 9 + 3) % 2147483647 / 7)] = ds2 at e2 r2 l2
      walk_at "rds"
      refine ⟨.inl ⟨rfl, _, sq e2⟩, ?_⟩
      walk_at "rds"
      refine ⟨_, _, _, rfl, rfl, e2, by rw [List.length_map]; exact sz1000' (by omega), ?_⟩
      refine ⟨_, _, _, _, ds2 ++ [_], rfl, same_mut s2 hD, by rw [upd_ne hpD]; exact p2, lst_app, rng_app2 r2 (by omega) (by omega), ?_⟩
      rw [List.length_append, List.length_singleton]; omega
    · walk_at "rds"
      refine for_it walk_range (Pv := fun j σ H' => ∃ y4 y6 y7 ds c, σ = [some (.ref a), some (.int st), some (.int most), some (.ref D), y4, some (.int c), y6, y7] ∧ Same H H' ∧ H' p = some (.lst (cs.map V.int)) ∧ H' D = some (.lst (ds.map V.int)) ∧ (∀ d ∈ ds, 0 ≤ d ∧ d < 1000000000000000000) ∧ ds.length ≤ 20 * i + j ∧ 0 ≤ c) ⟨_, y6, y7, ds, c, rfl, sm, hpp, hd, hrg, by omega, by omega⟩ (fun _ _ _ _ _ => trivial) (fun j x σ H3 H4 hj hp hy => ?_) (fun σ H3 hp => ?_)
      · obtain ⟨z4, z6, z7, ds, c, rfl, sm, hpp, hd, hrg, hl, hc0⟩ := hp
        obtain ⟨rfl, rfl⟩ := hy
        have hj' : j < 20 := hj
        walk_at "rds"
        refine ite2 (fun e => ?_) (fun e => ?_)
        · walk_at "rds"
          refine ⟨.inl ⟨rfl, _, sq hd⟩, ?_⟩
          walk_at "rds"
          refine ⟨_, _, _, rfl, rfl, hd, by rw [List.length_map]; exact sz1000' (by omega), ?_⟩
          walk_at "rds"
          refine ⟨_, _, _, ds ++ [_], _, rfl, same_mut sm hD, by rw [upd_ne hpD]; exact hpp, lst_app, rng_app2 hrg (by omega) (by omega), ?_, by omega⟩
          rw [List.length_append, List.length_singleton]; omega
        · walk_at "rds"
          exact ⟨_, _, _, ds, _, rfl, sm, hpp, hd, hrg, by omega, by omega⟩
      · obtain ⟨z4, z6, z7, ds, c, rfl, sm, hpp, hd, hrg, hl, hc0⟩ := hp
        exact ⟨_, _, _, _, ds, rfl, sm, hpp, hd, hrg, by have : (20 : Int).toNat = 20 := rfl; omega⟩
  · obtain ⟨y4, y5, y6, y7, ds, rfl, sm, hpp, hd, hrg, hl⟩ := hp'
    walk_at "rds"
    refine ⟨D, _, rfl, sq hd, fun r hr => ?_⟩
    obtain ⟨es, ees, hes, hm⟩ := cutV_most ds most
    rw [ees]
    exact q _ r es (sm.trans (same_upd hr)) (same_none sm hr) upd_same (fun d hd => hrg d (hm d hd)) hes
end

/-! ### pairs of ints, in order -/
def leP (a b : Int × Int) : Prop := a.1 < b.1 ∨ (a.1 = b.1 ∧ a.2 ≤ b.2)
def prD (p : Int × Int) : PyData := .tuple [.int p.1, .int p.2]
/-! ### pairs of ints -/
inductive PrL (H : Hp) : List V → List (Int × Int) → Prop
  | nil : PrL H [] []
  | cons {t : Addr} {a b : Int} {xs : List V} {ps : List (Int × Int)} : H t = some (.tup [.int a, .int b]) → PrL H xs ps → PrL H (.ref t :: xs) ((a, b) :: ps)
def prK (H : Hp) : V → Int × Int := fun v => match v with
  | .ref t => (match H t with
    | some (.tup [.int a, .int b]) => (a, b)
    | _ => (0, 0))
  | _ => (0, 0)
theorem prK_at {H : Hp} {t : Addr} {a b : Int} (h : H t = some (.tup [.int a, .int b])) : prK H (.ref t) = (a, b) := by
  unfold prK
  simp only [h]
theorem PrL.tp {H H' : Hp} (t : Tp H H') : ∀ {xs : List V} {ps : List (Int × Int)}, PrL H xs ps → PrL H' xs ps
  | _, _, .nil => .nil
  | _, _, .cons h r => .cons (t _ _ h) (r.tp t)
theorem PrL.on {H H' : Hp} {xs : List V} {ps : List (Int × Int)} (h : PrL H xs ps) (s : Same H H') : PrL H' xs ps := h.tp (Same.tp s)
theorem PrL.snoc {H : Hp} {t : Addr} {a b : Int} (h2 : H t = some (.tup [.int a, .int b])) : ∀ {xs : List V} {ps : List (Int × Int)}, PrL H xs ps → PrL H (xs ++ [.ref t]) (ps ++ [(a, b)])
  | _, _, .nil => .cons h2 .nil
  | _, _, .cons h r => .cons h (r.snoc h2)
theorem PrL.length {H : Hp} : ∀ {xs : List V} {ps : List (Int × Int)}, PrL H xs ps → xs.length = ps.length
  | _, _, .nil => rfl
  | _, _, .cons _ r => by rw [List.length_cons, List.length_cons, r.length]
theorem PrL.eq {H : Hp} : ∀ {xs : List V} {ps : List (Int × Int)}, PrL H xs ps → ps = xs.map (prK H)
  | _, _, .nil => rfl
  | _, _, .cons h r => by rw [List.map_cons, prK_at h, ← r.eq]
theorem PrL.mem {H : Hp} : ∀ {xs : List V} {ps : List (Int × Int)}, PrL H xs ps → ∀ x ∈ xs, ∃ t, x = V.ref t ∧ H t = some (.tup [.int (prK H x).1, .int (prK H x).2])
  | _, _, .nil, _, m => nomatch m
  | _, _, .cons h r, x, m => by
    rcases List.mem_cons.mp m with rfl | m
    · exact ⟨_, rfl, by rw [prK_at h]; exact h⟩
    · exact r.mem x m
theorem PrL.of {H : Hp} : ∀ (ys : List V), (∀ x ∈ ys, ∃ t, x = V.ref t ∧ H t = some (.tup [.int (prK H x).1, .int (prK H x).2])) → PrL H ys (ys.map (prK H))
  | [], _ => .nil
  | y :: r, h => by
    obtain ⟨t, e, ht⟩ := h y List.mem_cons_self
    subst e
    rw [List.map_cons]
    have := PrL.of r (fun z hz => h z (List.mem_cons_of_mem _ hz))
    obtain ⟨a, b, e2⟩ : ∃ a b, prK H (.ref t) = (a, b) := ⟨_, _, rfl⟩
    rw [e2] at ht ⊢
    exact .cons ht this
theorem PrL.dt {K : PySem.W.Frag} {H : Hp} : ∀ {xs : List V} {ps : List (Int × Int)}, PrL H xs ps → DtAll K H none xs (ps.map prD)
  | _, _, .nil => .nil
  | _, _, .cons h r => .cons (.tup (.inl h) (.cons (.int _) (.cons (.int _) .nil))) r.dt
/-- what sorted makes of such a list -/
theorem PrL.sorted {H : Hp} {xs ys : List V} {ps : List (Int × Int)} (h : PrL H xs ps) (hs : SrtO.Srtd (ltP (prK H)) ys) (hb : SrtO.Stb (ltP (prK H)) ys xs) : ∃ qs, PrL H ys qs ∧ qs.Perm ps ∧ qs.Pairwise leP := by
  refine ⟨ys.map (prK H), PrL.of ys (fun x hx => h.mem x (hb.perm.mem_iff.mp hx)), ?_, ?_⟩
  · rw [h.eq]; exact hb.perm.map _
  · rw [List.pairwise_map]
    refine hs.imp fun {x y} e => ?_
    have := SrtO.lexB_no.mp e
    unfold leP
    omega
theorem prs_shaped (ps : List (Int × Int)) : SeqAt.shaped (.list (ps.map prD)) = true ∧ PyData.eqv (.list (ps.map prD)) (.list (ps.map prD)) = true := by
  have key : ∀ ps : List (Int × Int), PyData.canLayAll0 (ps.map prD) = true ∧ PyData.depthAll (ps.map prD) ≤ 1 := by
    intro ps
    induction ps with
    | nil => exact ⟨by simp [PyData.canLayAll0], by simp [PyData.depthAll]⟩
    | cons p r ih =>
      rw [List.map_cons]
      constructor
      · rw [PyData.canLayAll0, ih.1]; simp [prD, PyData.canLay0, PyData.canLayAll0]
      · rw [PyData.depthAll]
        have : (prD p).depth ≤ 1 := by simp [prD, PyData.depth, PyData.depthAll]
        have := ih.2
        omega
  have l : (PyData.list (ps.map prD)).canLay0 = true := by rw [PyData.canLay0]; exact (key ps).1
  refine ⟨?_, SeqAt.eqv_refl _ l⟩
  unfold SeqAt.shaped
  rw [l, decide_eq_true (by rw [PyData.depth]; have := (key ps).2; omega)]; rfl

/-! ### max(xs), min(xs, default=None) of a list of data; sorted(xs) of data; x < y of data -/
theorem Vals.back {xs : List V} {us : List Value} (h : Vals xs us) {i : Nat} {u : Value} (e : us[i]? = some u) : ∃ x, xs[i]? = some x ∧ RelV x u := by
  have hi : i < us.length := (List.getElem?_eq_some_iff.mp e).1
  have hi' : i < xs.length := by rw [h.length]; exact hi
  obtain ⟨v, hv, r⟩ := h.get (List.getElem?_eq_getElem hi')
  rw [e] at hv
  cases hv
  exact ⟨_, List.getElem?_eq_getElem hi', r⟩
section
open PySem.W
variable {X : Cx}
def rMaxDt (K : PySem.W.Frag) : List V → Hp → VK → Prop := fun vs H Q => ∃ (l : Addr) (xs : List V) (d : PyData) (ds : List PyData), vs = [.ref l] ∧ SqL K H l xs ∧ DpAll K H xs (d :: ds) ∧ AlikeAll (d :: ds) ∧ PyData.depthAll (d :: ds) ≤ 60 ∧
  ∀ (i : Nat) v, xs[i]? = some v → (d :: ds)[i]? = some (maxD d ds) → Q v H
theorem cr_maxDt (hc : X.calm = true) (hu : X.A.units + 65 < cLine) : CallR X (.builtin "max") (rMaxDt X.K) := by
  intro pins s σ H vs us Q I r h
  obtain ⟨l, xs, d, ds, rfl, hs, hd, ha, hdep, q⟩ := h
  obtain ⟨its, rv, hl, hz⟩ := I.list hs
  rw [Vals.ref1 r]
  obtain ⟨as, hr⟩ := Dp.readsAll I _ _ _ hd rv
  have hr' : ReadsAll s.heap its.toArray.toList (d :: ds) as := hr
  have hn : its.toArray.size = ds.length + 1 := readsAll_len hr'
  refine call_max_walkH (iter_listW (A := X.A.in1) (I.ok.hd hc) hl.isList fun s₂ e W st hfp hw hk => ?_)
  refine ⟨_, _, _, _, _, _, _, s.heap, _, rfl, W, st, hfp, by omega, hw, hk, cmpIn_gt (A := X.A.in1) hr' ha (by show X.A.units + 1 + _ < _; omega), fun v s' hP m => ?_⟩
  obtain ⟨h', tk, rfl, hk'⟩ := moved_old e rfl m
  have e1 : its.toArray.size - 1 = ds.length := by omega
  obtain ⟨l1, e2⟩ := argBest_fold (fun a b => dataLt b a) PyData.none d ds ds.length (Nat.le_refl _)
  rw [List.take_length] at e2
  rw [e1] at hP
  obtain ⟨x, gx, rx⟩ := Vals.back rv (by rw [← Array.getElem?_toList] at hP; exact hP)
  refine ⟨x, H, I.kept hk', rx, q _ x gx ?_⟩
  rw [List.getD_eq_getElem?_getD] at e2
  have hlt : argBest (fun i j => (fun a b => dataLt b a) ((d :: ds).getD i .none) ((d :: ds).getD j .none)) ds.length < (d :: ds).length := Nat.lt_succ_of_le l1
  rw [List.getElem?_eq_getElem hlt] at e2
  exact (List.getElem?_eq_getElem hlt).trans (congrArg some e2)
/-- x < y of data -/
def rLtD (K : PySem.W.Frag) : R2 := fun x y H Q => ∃ d e, Dp K H x d ∧ Dp K H y e ∧ alike d e = true ∧ d ≠ .none ∧ d.depth ≤ 60 ∧ Q (.bl (dataLt d e)) H
theorem op_ltDt (hu : X.A.units + 65 < cLine) : OpR X (compareOp .Lt) (rLtD X.K) := by
  intro pins s σ H x y v u Q I rx ry h
  obtain ⟨d, e, hd, he, al, nn, dp, q⟩ := h
  obtain ⟨as, r1⟩ := Dp.reads I d x v hd rx
  obtain ⟨bs, r2⟩ := Dp.reads I e y u he ry
  have z := rcLt_alike d e X.A s v u as bs r1 r2 al nn (by have := Nat.min_le_left d.depth e.depth; omega) X.prog X.w X.xe (EP X pins σ Q) ⟨.bl _, H, I, rfl, q⟩
  exact z
end

/-! ### max of a list of pairs of ints -/
theorem maxD_pr : ∀ (ps : List (Int × Int)) (p : Int × Int), ∃ b, PySem.W.maxD (prD p) (ps.map prD) = prD b ∧ b ∈ p :: ps ∧ ∀ y ∈ p :: ps, leP y b
  | [], p => ⟨p, rfl, List.mem_cons_self, fun y m => by rw [List.mem_singleton.mp m]; exact .inr ⟨rfl, Int.le_refl _⟩⟩
  | q :: ps, p => by
    have e : PySem.W.maxD (prD p) ((q :: ps).map prD) = PySem.W.maxD (if PySem.W.dataLt (prD p) (prD q) then prD q else prD p) (ps.map prD) := rfl
    have l : PySem.W.dataLt (prD p) (prD q) = decide (p.1 < q.1 ∨ (p.1 = q.1 ∧ p.2 < q.2)) := PySem.W.dataLt_ii _ _ _ _
    by_cases h : p.1 < q.1 ∨ (p.1 = q.1 ∧ p.2 < q.2)
    · rw [l, if_pos (decide_eq_true h)] at e
      obtain ⟨b, e2, m, al⟩ := maxD_pr ps q
      refine ⟨b, e.trans e2, List.mem_cons_of_mem _ m, fun y my => ?_⟩
      rcases List.mem_cons.mp my with rfl | my
      · have := al q List.mem_cons_self
        unfold leP at *; omega
      · exact al y my
    · rw [l, if_neg (by rw [decide_eq_false h]; decide)] at e
      obtain ⟨b, e2, m, al⟩ := maxD_pr ps p
      refine ⟨b, e.trans e2, ?_, fun y my => ?_⟩
      · rcases List.mem_cons.mp m with rfl | m
        · exact List.mem_cons_self
        · exact List.mem_cons_of_mem _ (List.mem_cons_of_mem _ m)
      · rcases List.mem_cons.mp my with rfl | my
        · exact al y List.mem_cons_self
        · rcases List.mem_cons.mp my with rfl | my
          · have := al p List.mem_cons_self
            unfold leP at *; omega
          · exact al y (List.mem_cons_of_mem _ my)
theorem prs_alike (ps : List (Int × Int)) : PySem.W.AlikeAll (ps.map prD) := by
  refine ⟨fun x mx y my => ?_, fun x mx => ?_⟩
  · obtain ⟨a, _, rfl⟩ := List.mem_map.mp mx
    obtain ⟨b, _, rfl⟩ := List.mem_map.mp my
    simp [prD, PySem.W.alike, PySem.W.alikeAll]
  · obtain ⟨a, _, rfl⟩ := List.mem_map.mp mx
    unfold prD; intro z; cases z
theorem prs_depth : ∀ (ps : List (Int × Int)), PyData.depthAll (ps.map prD) ≤ 3
  | [] => by simp [PyData.depthAll]
  | p :: ps => by
    have := prs_depth ps
    rw [List.map_cons, PyData.depthAll]
    have : (prD p).depth ≤ 3 := by simp [prD, PyData.depth, PyData.depthAll]
    omega
theorem PrL.at_ {H : Hp} : ∀ {xs : List V} {ps : List (Int × Int)} {i : Nat} {v : V}, PrL H xs ps → xs[i]? = some v → ∃ t p, v = .ref t ∧ ps[i]? = some p ∧ H t = some (.tup [.int p.1, .int p.2])
  | _, _, _, _, .nil, e => by simp at e
  | _, _, 0, _, .cons h _, e => by simp at e; subst e; exact ⟨_, _, rfl, rfl, h⟩
  | _, _, i + 1, v, .cons _ r, e => by
    obtain ⟨t, p, h1, h2, h3⟩ := r.at_ (i := i) (v := v) (by simpa using e)
    exact ⟨t, p, h1, by simpa using h2, h3⟩
theorem max_pr {K : PySem.W.Frag} {H : Hp} {l : Addr} {xs : List V} {ps : List (Int × Int)} {Q : VK} (hl : H l = some (.lst xs)) (pk : PrL H xs ps) (n : 0 < ps.length) (q : ∀ t p, p ∈ ps → H t = some (.tup [.int p.1, .int p.2]) → (∀ y ∈ ps, leP y p) → Q (.ref t) H) : rMaxDt K [.ref l] H Q := by
  cases ps with
  | nil => exact absurd n (Nat.lt_irrefl _)
  | cons p ps =>
    refine ⟨l, xs, prD p, ps.map prD, rfl, sq hl, DtAll.dp _ _ (PrL.dt pk), prs_alike (p :: ps), Nat.le_trans (prs_depth (p :: ps)) (by decide), fun i v gx gd => ?_⟩
    obtain ⟨b, eb, mb, al⟩ := maxD_pr ps p
    obtain ⟨t, p2, rfl, g2, ht⟩ := pk.at_ gx
    rw [eb] at gd
    have gd : ((p :: ps).map prD)[i]? = some (prD b) := gd
    rw [List.getElem?_map, g2] at gd
    have e : prD p2 = prD b := Option.some.inj gd
    obtain rfl : p2 = b := by
      unfold prD at e
      injection e with e
      injection e with e1 e
      injection e with e2 _
      injection e1 with e1
      injection e2 with e2
      exact Prod.ext e1 e2
    exact q t p2 mb ht al
theorem cutV_take {α : Type} (f : α → V) (xs : List α) (n : Nat) : cutV (xs.map f) none (some (n : Int)) = (xs.take n).map f := by
  unfold cutV
  rw [HT.sIx_nat, HT.sIx_none, List.drop_zero, Nat.sub_zero, List.length_map, List.map_take]
  rcases Nat.le_total n xs.length with h | h
  · rw [Nat.min_eq_left h]
  · rw [Nat.min_eq_right h, List.take_of_length_le (by rw [List.length_map]; exact Nat.le_refl _), List.take_of_length_le (by rw [List.length_map]; exact h)]

/-! ### blocks as data, dicts of them -/
abbrev VD := V × PyData
abbrev Sub := List (Int × VD)
def subV (s : Sub) : List (Key × V) := kvs Sum.inl (fun x : VD => x.1) s
def IsB (d : PyData) : Prop := ∃ e n h r, d = .tuple [.int e, .int n, .int h, r]
def eD : PyData → Int
  | .tuple (.int e :: _) => e
  | _ => 0
def nD : PyData → Int
  | .tuple (_ :: .int e :: _) => e
  | _ => 0
def hD : PyData → Int
  | .tuple (_ :: _ :: .int e :: _) => e
  | _ => 0
/-- a block that may stand in a dict -/
structure OkB (K : PySem.W.Frag) (H : Hp) (x : VD) : Prop where
  dt : Dt K H none x.1 x.2
  nl : noL x.2 = true
  ly : Ly 6 x.2
  is : IsB x.2
theorem OkB.tp {K : PySem.W.Frag} {H H' : Hp} {x : VD} (h : OkB K H x) (t : Tp H H') : OkB K H' x := { h with dt := Dt.keep t _ _ h.nl h.dt }
theorem OkB.on {K : PySem.W.Frag} {H H' : Hp} {x : VD} (h : OkB K H x) (s : Same H H') : OkB K H' x := h.tp (Same.tp s)
theorem OkB.at_ {K : PySem.W.Frag} {H : Hp} {x : VD} (h : OkB K H x) : ∃ a r, x.1 = .ref a ∧ TupAt K H a [.int (eD x.2), .int (nD x.2), .int (hD x.2), r] := by
  obtain ⟨e, n, i, r, ed⟩ := h.is
  have hd := h.dt
  rw [ed] at hd ⊢
  obtain ⟨v, d⟩ := x
  have hd : Dt K H none v _ := hd
  cases hd with
  | tup ha hx =>
    cases hx with
    | cons h1 r1 => cases h1; cases r1 with
      | cons h2 r2 => cases h2; cases r2 with
        | cons h3 r3 => cases h3; cases r3 with
          | cons h4 r4 => cases r4; exact ⟨_, _, rfl, ha⟩
structure SubAt (K : PySem.W.Frag) (H : Hp) (a : Addr) (s : Sub) : Prop where
  at_ : H a = some (.dK (subV s))
  ok : ∀ x ∈ s, OkB K H x.2
  kk : kOk s
  ln : s.length ≤ 1000
theorem SubAt.keep {K : PySem.W.Frag} {H H' : Hp} {a : Addr} {s : Sub} (h : SubAt K H a s) (e : H' a = H a) (t : Tp H H') : SubAt K H' a s := { h with at_ := by rw [e]; exact h.at_, ok := fun x m => (h.ok x m).tp t }
def rm (s : Sub) (e : Int) : Sub := s.filter fun k => decide (k.1 ≠ e)
theorem dropK_rm (s : Sub) (e : Int) : dropK (subV s) (Sum.inl e) = subV (rm s e) := by
  unfold dropK subV kvs rm
  rw [List.filter_map]
  congr 1
  refine List.filter_congr fun k _ => ?_
  show decide ((Sum.inl k.1 : Key) ≠ Sum.inl e) = decide (k.1 ≠ e)
  by_cases h : k.1 = e <;> simp [h]
theorem gA_rm {s : Sub} (e c : Int) : gA (rm s e) c = if c = e then none else gA s c := by
  induction s with
  | nil => unfold rm gA; simp
  | cons k r ih =>
    unfold rm gA at ih ⊢
    rw [List.filter_cons]
    by_cases h : k.1 = e
    · rw [if_neg (by simp [h]), ih, List.find?_cons]
      by_cases hc : c = e
      · rw [if_pos hc, if_pos hc]
      · rw [if_neg hc, if_neg hc, decide_eq_false (fun z => hc (by rw [← z, h]))]
    · rw [if_pos (by simp [h]), List.find?_cons, List.find?_cons]
      by_cases hk : k.1 = c
      · rw [decide_eq_true hk, if_neg (fun z => h (by rw [hk, z]))]
      · rw [decide_eq_false hk]; exact ih
theorem rm_ok {s : Sub} {e : Int} (h : kOk s) : kOk (rm s e) := h.sublist (List.Sublist.map _ List.filter_sublist)
theorem rm_len (s : Sub) (e : Int) : (rm s e).length ≤ s.length := List.length_filter_le _ _
theorem gA_snoc {s : Sub} {e : Int} {b : VD} (c : Int) : gA (s ++ [(e, b)]) c = (gA s c).or (if c = e then some b else none) := by
  unfold gA
  rw [List.find?_append]
  cases s.find? (fun k => decide (k.1 = c)) with
  | some k => rfl
  | none =>
    rw [List.find?_cons]
    by_cases h : e = c
    · rw [decide_eq_true h, if_pos h.symm]; rfl
    · rw [decide_eq_false h, if_neg (fun z => h z.symm)]; rfl
theorem pA_new {s : Sub} {e : Int} {b : VD} (h : gA s e = none) : pA s e b = s ++ [(e, b)] := by
  unfold pA
  rw [if_neg (by intro z; exact gA_none.mp h (by simpa using z))]
theorem kOk_new {s : Sub} {e : Int} {b : VD} (k : kOk s) (h : gA s e = none) : kOk (s ++ [(e, b)]) := by
  have := pA_ok e b k
  rw [pA_new h] at this
  exact this
theorem decV (i j : Int) : decide (V.int i = V.int j) = decide (i = j) := by
  by_cases h : i = j
  · rw [h, decide_eq_true rfl, decide_eq_true rfl]
  · rw [decide_eq_false h, decide_eq_false (fun z => h (V.int.inj z))]
/-! ### the chain -/
def chF (rt : V) (A W : Addr) : List (Str × V) := putF "_waiting" (.ref W) (putF "_connected" (.ref A) (putF "root" rt []))
structure ChAt (Cc : Addr) (K : PySem.W.Frag) (H : Hp) (p A W : Addr) (rt : VD) (con wai : Sub) : Prop where
  ins : ∃ dx, H p = some (.ins Cc dx (chF rt.1 A W))
  rt : OkB K H rt
  ca : SubAt K H A con
  wa : SubAt K H W wai
  aw : A ≠ W
theorem ChAt.on {Cc p A W : Addr} {K : PySem.W.Frag} {H H' : Hp} {rt : VD} {con wai : Sub} (h : ChAt Cc K H p A W rt con wai) (s : Same H H') : ChAt Cc K H' p A W rt con wai :=
  { h with ins := h.ins.imp fun _ e => s _ _ e, rt := h.rt.on s, ca := h.ca.keep (by rw [h.ca.at_]; exact s _ _ h.ca.at_) (Same.tp s), wa := h.wa.keep (by rw [h.wa.at_]; exact s _ _ h.wa.at_) (Same.tp s) }
theorem ne_kind {H : Hp} {a b : Addr} {o u : HO} (e : H a = some o) (f : H b = some u) (n : o ≠ u) : a ≠ b := fun z => by
  rw [z, f] at e; exact n (Option.some.inj e).symm
theorem tp_upd {H : Hp} {a : Addr} {o u : HO} (e : H a = some u) (n : ∀ xs, u ≠ .tup xs) : Tp H (upd H a o) := fun b xs f => by
  rw [upd_ne (ne_kind f e (fun z => n xs z.symm))]; exact f
theorem ChAt.delW {Cc p A W : Addr} {K : PySem.W.Frag} {H : Hp} {rt : VD} {con wai : Sub} (h : ChAt Cc K H p A W rt con wai) (e : Int) : ChAt Cc K (upd H W (.dK (subV (rm wai e)))) p A W rt con (rm wai e) := by
  have tp := tp_upd (o := .dK (subV (rm wai e))) h.wa.at_ (by intro _ z; cases z)
  exact { h with
    ins := h.ins.imp fun _ i => by rw [upd_ne (ne_kind i h.wa.at_ (by intro z; cases z))]; exact i
    rt := h.rt.tp tp, ca := h.ca.keep (upd_ne h.aw) tp
    wa := ⟨upd_same, fun x m => (h.wa.ok x (List.mem_filter.mp m).1).tp tp, rm_ok h.wa.kk, Nat.le_trans (rm_len _ _) h.wa.ln⟩ }
theorem put_sub {s : Sub} {e : Int} {b : VD} (g : gA s e = none) : putK (subV s) (Sum.inl e) b.1 = subV (s ++ [(e, b)]) := by
  unfold subV
  rw [pA_kvs inlI (fun x : VD => x.1) s e b, pA_new g]
theorem ChAt.addC {Cc p A W : Addr} {K : PySem.W.Frag} {H : Hp} {rt : VD} {con wai : Sub} {e : Int} {b : VD} (h : ChAt Cc K H p A W rt con wai) (ok : OkB K H b) (g : gA con e = none) (l : con.length < 1000) : ChAt Cc K (upd H A (.dK (subV (con ++ [(e, b)])))) p A W rt (con ++ [(e, b)]) wai := by
  have tp := tp_upd (o := .dK (subV (con ++ [(e, b)]))) h.ca.at_ (by intro _ z; cases z)
  exact { h with
    ins := h.ins.imp fun _ i => by rw [upd_ne (ne_kind i h.ca.at_ (by intro z; cases z))]; exact i
    rt := h.rt.tp tp, wa := h.wa.keep (upd_ne h.aw.symm) tp
    ca := ⟨upd_same, fun x m => by
      rcases List.mem_append.mp m with m | m
      · exact (h.ca.ok x m).tp tp
      · rw [List.mem_singleton.mp m]; exact ok.tp tp, kOk_new h.ca.kk g, by rw [List.length_append]; exact l⟩ }
theorem ChAt.addW {Cc p A W : Addr} {K : PySem.W.Frag} {H : Hp} {rt : VD} {con wai : Sub} {e : Int} {b : VD} (h : ChAt Cc K H p A W rt con wai) (ok : OkB K H b) (g : gA wai e = none) (l : wai.length < 1000) : ChAt Cc K (upd H W (.dK (subV (wai ++ [(e, b)])))) p A W rt con (wai ++ [(e, b)]) := by
  have tp := tp_upd (o := .dK (subV (wai ++ [(e, b)]))) h.wa.at_ (by intro _ z; cases z)
  exact { h with
    ins := h.ins.imp fun _ i => by rw [upd_ne (ne_kind i h.wa.at_ (by intro z; cases z))]; exact i
    rt := h.rt.tp tp, ca := h.ca.keep (upd_ne h.aw) tp
    wa := ⟨upd_same, fun x m => by
      rcases List.mem_append.mp m with m | m
      · exact (h.wa.ok x m).tp tp
      · rw [List.mem_singleton.mp m]; exact ok.tp tp, kOk_new h.wa.kk g, by rw [List.length_append]; exact l⟩ }
theorem ChAt.lst {Cc p A W R : Addr} {K : PySem.W.Frag} {H : Hp} {rt : VD} {con wai : Sub} {xs xs' : List V} (h : ChAt Cc K H p A W rt con wai) (e : H R = some (.lst xs)) : ChAt Cc K (upd H R (.lst xs')) p A W rt con wai := by
  have tp := tp_upd (o := .lst xs') e (by intro _ z; cases z)
  exact { h with
    ins := h.ins.imp fun _ i => by rw [upd_ne (ne_kind i e (by intro z; cases z))]; exact i
    rt := h.rt.tp tp, ca := h.ca.keep (upd_ne (ne_kind h.ca.at_ e (by intro z; cases z))) tp, wa := h.wa.keep (upd_ne (ne_kind h.wa.at_ e (by intro z; cases z))) tp }
theorem subV_val {s : Sub} (e : Int) : valV (subV s) (Sum.inl e : Key) = (gA s e).map (fun x : VD => x.1) := by unfold subV; rw [gA_kvs inlI]
/-- one waiting block looked at -/
def conn1 (st : Sub × Sub × List VD) (e : Int) : Sub × Sub × List VD := match gA st.2.1 e with
  | none => st
  | some b => match gA st.1 (nD b.2) with
    | none => st
    | some p => if hD b.2 = hD p.2 + 1 then (st.1 ++ [(e, b)], rm st.2.1 e, st.2.2 ++ [b]) else (st.1, rm st.2.1 e, st.2.2)
def conn (con wai : Sub) (es : List Int) : Sub × Sub × List VD := es.foldl conn1 (con, wai, [])
def stI (con wai : Sub) (es : List Int) (i : Nat) : Sub × Sub × List VD := conn con wai (es.take i)
theorem stI_succ {con wai : Sub} {es : List Int} {i : Nat} {e : Int} (h : es[i]? = some e) : stI con wai es (i + 1) = conn1 (stI con wai es i) e := by
  unfold stI conn
  rw [List.take_add_one, h, List.foldl_append]; rfl
structure Cinv (con wai : Sub) (es : List Int) (i : Nat) (st : Sub × Sub × List VD) : Prop where
  w : ∀ j e, i ≤ j → es[j]? = some e → gA st.2.1 e = gA wai e ∧ gA st.1 e = none
  l : st.1.length + st.2.1.length ≤ con.length + wai.length
  o : st.2.2.length ≤ i
theorem cinv0 {con wai : Sub} {es : List Int} (h : ∀ e ∈ es, gA con e = none) : Cinv con wai es 0 (con, wai, []) := ⟨fun j e _ g => ⟨rfl, h e (List.mem_of_getElem? g)⟩, Nat.le_refl _, Nat.le_refl _⟩
theorem rm_lt {s : Sub} {e : Int} {b : VD} (h : gA s e = some b) : (rm s e).length < s.length := by
  unfold rm
  refine Nat.lt_of_le_of_ne (List.length_filter_le _ _) fun z => ?_
  have := List.length_filter_eq_length_iff.mp z (e, b) (gA_some h)
  simp at this
theorem conn1_none {st : Sub × Sub × List VD} {e : Int} {b : VD} (w : gA st.2.1 e = some b) (c : gA st.1 (nD b.2) = none) : conn1 st e = st := by
  unfold conn1; rw [w]; dsimp only; rw [c]
theorem conn1_yes {st : Sub × Sub × List VD} {e : Int} {b p : VD} (w : gA st.2.1 e = some b) (c : gA st.1 (nD b.2) = some p) (h : hD b.2 = hD p.2 + 1) : conn1 st e = (st.1 ++ [(e, b)], rm st.2.1 e, st.2.2 ++ [b]) := by
  unfold conn1; rw [w]; dsimp only; rw [c]; exact if_pos h
theorem conn1_no {st : Sub × Sub × List VD} {e : Int} {b p : VD} (w : gA st.2.1 e = some b) (c : gA st.1 (nD b.2) = some p) (h : ¬ hD b.2 = hD p.2 + 1) : conn1 st e = (st.1, rm st.2.1 e, st.2.2) := by
  unfold conn1; rw [w]; dsimp only; rw [c]; exact if_neg h
theorem Cinv.step {con wai : Sub} {es : List Int} {i : Nat} {st : Sub × Sub × List VD} {e : Int} {b : VD} (h : Cinv con wai es i st) (nd : es.Nodup) (g : es[i]? = some e) (gb : gA wai e = some b) : Cinv con wai es (i + 1) (conn1 st e) := by
  have w0 := h.w i e (Nat.le_refl _) g
  rw [gb] at w0
  have ne : ∀ j e', i + 1 ≤ j → es[j]? = some e' → e' ≠ e := fun j e' hj g' z => by
    have := (List.getElem?_inj (List.getElem?_eq_some_iff.mp g).1 nd).mp (g.trans (by rw [g', z]))
    omega
  have ll := rm_lt w0.1
  have lh := h.l
  cases gc : gA st.1 (nD b.2) with
  | none =>
    rw [conn1_none w0.1 gc]
    exact ⟨fun j e' hj g' => h.w j e' (by omega) g', lh, Nat.le_succ_of_le h.o⟩
  | some p =>
    by_cases hh : hD b.2 = hD p.2 + 1
    · rw [conn1_yes w0.1 gc hh]
      refine ⟨fun j e' hj g' => ?_, ?_, ?_⟩
      · have := h.w j e' (by omega) g'
        have n := ne j e' hj g'
        exact ⟨by show gA (rm st.2.1 e) e' = _; rw [gA_rm, if_neg n]; exact this.1, by show gA (st.1 ++ [(e, b)]) e' = none; rw [gA_snoc, this.2, if_neg n]; rfl⟩
      · show (st.1 ++ [(e, b)]).length + (rm st.2.1 e).length ≤ _
        rw [List.length_append, List.length_singleton]; omega
      · show (st.2.2 ++ [b]).length ≤ i + 1
        rw [List.length_append, List.length_singleton]; have := h.o; omega
    · rw [conn1_no w0.1 gc hh]
      refine ⟨fun j e' hj g' => ?_, ?_, Nat.le_succ_of_le h.o⟩
      · have := h.w j e' (by omega) g'
        have n := ne j e' hj g'
        exact ⟨by show gA (rm st.2.1 e) e' = _; rw [gA_rm, if_neg n]; exact this.1, this.2⟩
      · show st.1.length + (rm st.2.1 e).length ≤ _
        omega
def spPlace (K : PySem.W.Frag) : Sp := fun vs H Q _ => ∃ b : VD, vs = [b.1] ∧ OkB K H b ∧ ∀ t, H t = none → Q (.ref t) (upd H t (.tup [.int (hD b.2), .int (eD b.2)]))
def spHas (K : PySem.W.Frag) : Sp := fun vs H Q _ => ∃ (A : Addr) (con : Sub) (b : VD), vs = [.ref A, b.1] ∧ SubAt K H A con ∧ OkB K H b ∧ Q (.bl (match gA con (nD b.2) with
  | none => false
  | some p => decide (hD b.2 = hD p.2 + 1))) H
def But (S : List Addr) (H H' : Hp) : Prop := ∀ b o, b ∉ S → H b = some o → H' b = some o
/-- nothing is gone -/
def Fr (H H' : Hp) : Prop := ∀ l, H' l = none → H l = none
theorem Fr.same {H H' : Hp} (s : Same H H') : Fr H H' := fun _ z => same_none s z
theorem Same.but {S : List Addr} {H H' : Hp} (s : Same H H') : But S H H' := fun b o _ h => s b o h
theorem But.trans {S : List Addr} {H H1 H2 : Hp} (a : But S H H1) (b : But S H1 H2) : But S H H2 := fun c o n h => b c o n (a c o n h)
theorem but_upd {S : List Addr} {a : Addr} {o : HO} {H : Hp} (h : a ∈ S) : But S H (upd H a o) := fun b u n e => by
  rw [upd_ne (fun z => n (by rw [z]; exact h))]; exact e
theorem fr_upd {H : Hp} {a : Addr} {o u : HO} (e : H a = some u) : Fr H (upd H a o) := fun b z => by
  by_cases h : b = a
  · rw [h, upd_same] at z; cases z
  · rw [upd_ne h] at z; exact z
def spConnW (Cc : Addr) (K : PySem.W.Frag) : Sp := fun vs H Q _ => ∃ (p A W : Addr) (rt : VD) (con wai : Sub), vs = [.ref p] ∧ ChAt Cc K H p A W rt con wai ∧ wai.length < 64 ∧ con.length + wai.length ≤ 900 ∧ (∀ x ∈ wai, gA con x.1 = none) ∧
  ∀ H' (es : List Int) l (zs : List VD), es.Perm (wai.map (·.1)) → es.Pairwise (· ≤ ·) → But [A, W] H H' → Fr H H' → ChAt Cc K H' p A W rt (conn con wai es).1 (conn con wai es).2.1 → H l = none → H' l = some (.lst (zs.map (·.1))) → zs.Perm (conn con wai es).2.2 → zs.Pairwise (fun x y => LexP (hD x.2, eD x.2) (hD y.2, eD y.2)) → Q (.ref l) H'
section
variable {P : Program} {w : World} {K : PySem.W.Frag} {mg : Str → Option Value} {base : Heap}
theorem cal_at {k : Nat} {x : Str} {sp : Sp} {f : Addr} (c : Cal P w K mg base k x sp []) (h : mg x = some (.ref f)) : C8.CalAt P w K mg base k f sp := by
  obtain ⟨f', fd, ps, ds, F, hm, kp, b, d⟩ := c.ex
  rw [h] at hm
  cases hm
  cases d
  exact ⟨fd, ps, F, kp, b⟩
theorem cal_mg {k : Nat} {x : Str} {sp : Sp} (c : Cal P w K mg base k x sp []) : ∃ f, mg x = some (.ref f) ∧ C8.CalAt P w K mg base k f sp := by
  obtain ⟨f', fd, ps, ds, F, hm, kp, b, d⟩ := id c.ex
  exact ⟨f', hm, cal_at c hm⟩
theorem c_place {C_Chain : Addr} {C_BadBlock : Addr} (T : Txt K mg C_Chain C_BadBlock) : Cal P w K mg base 1 "place" (spPlace K) [] := by
  refine cal T.d_place sc_place (fun vs H Q E h => ?_) (fun f cdv A outer s H vs Q E hr h => ?_)
  · obtain ⟨b, rfl, _⟩ := h; rfl
  obtain ⟨b, rfl, ok, q⟩ := h
  obtain ⟨a, r, ea, ha⟩ := ok.at_
  rw [ea]
  refine ⟨_, (pss_one (ps_ret (pe_tup (pa_cons (pe_ix (kixt (K := K)) (pv 0) pe_int (fun _ _ => rfl)) (pa_cons (pe_ix (kixt (K := K)) (pv 0) pe_int (fun _ _ => rfl)) pa_nil))))), ?_⟩
  walk_at "rds"
  refine ⟨a, _, 2, _, rfl, rfl, ha.sq, atI_nat (j := 2) rfl, ?_⟩
  walk_at "rds"
  refine ⟨a, _, 0, _, rfl, rfl, ha.sq, atI_nat (j := 0) rfl, ?_⟩
  walk_at "rds"
  exact q
theorem c_has_parent {C_Chain : Addr} {C_BadBlock : Addr} (T : Txt K mg C_Chain C_BadBlock) : Cal P w K mg base 1 "has_parent" (spHas K) [] := by
  refine cal T.d_has_parent sc_has_parent (fun vs H Q E h => ?_) (fun f cdv A outer s H vs Q E hr h => ?_)
  · obtain ⟨A, con, b, rfl, _⟩ := h; rfl
  obtain ⟨A, con, b, rfl, ca, ok, q⟩ := h
  obtain ⟨a, r, ea, ha⟩ := ok.at_
  rw [ea]
  refine ⟨_, (pss_cons (ps_set (i := 2) sc_has_parent.nd rfl (Or.inl rfl) (pe_dget1 (hu1 hr) (pv 0) (pe_ix (kixt (K := K)) (pv 1) pe_int (fun _ _ => rfl)) ⟨by rfl, by rfl, by rfl, by rfl⟩))
      (pss_one (ps_ret (pe_and (pe_cmpR op_notN (pv 2) pe_non (nomark _)) (pe_one (pe_cmpR op_eq (pe_ix (kixt (K := K)) (pv 1) pe_int (fun _ _ => rfl)) (pe_op op_add (pe_ix (kixt (K := K)) (pv 2) pe_int (fun _ _ => rfl)) pe_int) (nomark _))))))), ?_⟩
  walk_at "rds"
  refine ⟨.inl ⟨_, .inl ca.at_⟩, ?_⟩
  walk_at "rds"
  refine ⟨a, _, 1, _, rfl, rfl, ha.sq, atI_nat (j := 1) rfl, ?_⟩
  refine ⟨_, DGet.k (k := Sum.inl (nD b.2)) ca.at_, ?_⟩
  unfold subV
  rw [gA_kvs inlI]
  cases g : gA con (nD b.2) with
  | none =>
    rw [g] at q
    walk_at "rds"
    exact q
  | some p =>
    rw [g] at q
    obtain ⟨c, r2, ec, hc⟩ := (ca.ok _ (gA_some g)).at_
    have ec : p.1 = .ref c := ec
    walk_at "rds"
    refine ifT (by show (!decide (p.1 = V.non)) = true; rw [ec]; rfl) ?_
    walk_at "rds"
    refine ⟨a, _, 2, _, rfl, rfl, ha.sq, atI_nat (j := 2) rfl, ?_⟩
    walk_at "rds"
    refine ⟨c, _, 2, _, ec, rfl, hc.sq, atI_nat (j := 2) rfl, ?_⟩
    walk_at "rds"
    rw [decV]
    exact q
theorem m_Chain___connect_waiting {C_Chain : Addr} {C_BadBlock : Addr} (T : Txt K mg C_Chain C_BadBlock) : Met P w K mg base 4 C_Chain "_connect_waiting" (spConnW C_Chain K) [] := by
  have c_has_parent := c_has_parent (P := P) (w := w) (K := K) (base := base) T
  have c_place := c_place (P := P) (w := w) (K := K) (base := base) T
  obtain ⟨fp, mp, cap⟩ := cal_mg c_place
  refine met T.cl_Chain T.me_Chain___connect_waiting sc_Chain___connect_waiting (fun vs H Q E h => ?_) (fun f cdv A outer s H vs Q E hr h => ?_)
  · obtain ⟨p, A, W, rt, con, wai, rfl, _⟩ := h; rfl
  obtain ⟨p, A, W, rt, con, wai, rfl, ch, h64, h900, apt, q⟩ := h
  refine ⟨_, (pss_cons (ps_set (i := 1) sc_Chain___connect_waiting.nd rfl (Or.inl rfl) (pe_lst pa_nil))
      (pss_cons (ps_set (i := 2) sc_Chain___connect_waiting.nd rfl (Or.inl rfl) (pe_callB (call_sortedDI rfl) (by rfl) T.z_sorted (by decide +kernel) (pa_cons (pe_fld (pv 0) rfl) pa_nil)))
      (pss_cons (ps_for PassesOwn.never rfl (pi_list (pv 2)) (pg_name (i := 3) sc_Chain___connect_waiting.nd rfl (Or.inl rfl)) (pss_cons (ps_set (i := 4) sc_Chain___connect_waiting.nd rfl (Or.inl rfl) (pe_dget (by exact hu_of hr) (pe_fld (pv 0) rfl) (pv 3) (fun _ _ => rfl)))
      (pss_one (ps_if (pt_cmp (pc_din (by exact hu_of hr) (pe_ix (kixt (K := K)) (pv 4) pe_int (fun _ _ => rfl)) (pe_fld (pv 0) rfl))) (pss_cons (ps_ddel (pe_fld (pv 0) rfl) (pv 3))
      (pss_one (ps_if (pt_val (pe_c c_has_parent hr (by decide) (by rfl) (pa_cons (pe_fld (pv 0) rfl) (pa_cons (pv 4) pa_nil)))) (pss_cons (ps_dput (hu_of hr) (pe_fld (pv 0) rfl) (pv 3) (pv 4) rfl)
      (pss_one (ps_expr (pe_bm PySem.F.plainAttrs_list PySem.F.slot_list_append PySem.F.type_list_append mt_append (pv 1) (pa_cons (pv 4) pa_nil))))) pss_nil))) pss_nil))))
      (pss_one (ps_ret (pe_callBK (cr_sortBy cap (hr.mono (by decide))) (by rfl) T.z_sorted (by decide +kernel) (pa_cons (pv 1) pa_nil) (pk_cons (pe_gc (v := .ref fp) (by rfl) ⟨_, mp, rfl⟩) pk_nil))))))), ?_⟩
  obtain ⟨dx, gp⟩ := ch.ins
  walk_at "rds"
  intro R hR
  have s1 := same_upd (o := .lst []) hR
  have eR : upd H R (.lst []) R = some (.lst []) := upd_same
  have ch1 := ch.on s1
  generalize upd H R (.lst []) = H1 at s1 eR ch1
  obtain ⟨dx1, gp1⟩ := ch1.ins
  walk_at "rds"
  refine ⟨p, _, dx1, _, _, rfl, gp1, T.cl_Chain, T.na_Chain__waiting, rfl, ?_⟩
  walk_at "rds"
  refine ⟨W, _, wai.map (·.1), rfl, .inl ch1.wa.at_, by unfold subV kvs; rw [List.map_map, List.map_map]; rfl, by rw [List.length_map]; exact h64, fun es ep pe se hep => ?_⟩
  have s2 := s1.trans (same_upd (o := .lst (es.map V.int)) hep)
  have eE : upd H1 ep (.lst (es.map V.int)) ep = some (.lst (es.map V.int)) := upd_same
  have nRE : R ≠ ep := ne_of_none eR hep
  have eR2 := (same_upd (o := .lst (es.map V.int)) hep) _ _ eR
  have hR0 := hR
  have hE0 := same_none s1 hep
  have ch2 := ch.on s2
  generalize upd H1 ep (.lst (es.map V.int)) = H2 at s2 eE eR2 ch2
  have nd : es.Nodup := pe.nodup_iff.mpr ch.wa.kk
  have inw : ∀ e ∈ es, ∃ b, gA wai e = some b := fun e m => by
    obtain ⟨x, hx, rfl⟩ := List.mem_map.mp (pe.mem_iff.mp m)
    exact ⟨_, gA_mem ch.wa.kk hx⟩
  have apt' : ∀ e ∈ es, gA con e = none := fun e m => by
    obtain ⟨x, hx, rfl⟩ := List.mem_map.mp (pe.mem_iff.mp m)
    exact apt x hx
  have lE : es.length < 64 := by rw [pe.length_eq, List.length_map]; exact h64
  walk_at "rds"
  refine ⟨⟨_, sq eE⟩, ?_⟩
  refine for_it (walk_list (K := K) (a := ep) (xs := es.map V.int)) (Pv := fun i σ' H' => ∃ y3 y4, σ' = [some (.ref p), some (.ref R), some (.ref ep), y3, y4] ∧ ChAt C_Chain K H' p A W rt (stI con wai es i).1 (stI con wai es i).2.1 ∧ Cinv con wai es i (stI con wai es i) ∧ H' R = some (.lst ((stI con wai es i).2.2.map (·.1))) ∧ (∀ x ∈ (stI con wai es i).2.2, OkB K H' x) ∧ H' ep = some (.lst (es.map V.int)) ∧ But [A, W] H H' ∧ Fr H H') ⟨none, none, rfl, ch2, cinv0 apt', eR2, (fun _ m => nomatch m), eE, Same.but s2, Fr.same s2⟩ (fun i σ' H' _ h => by obtain ⟨_, _, _, _, _, _, _, h, _⟩ := h; exact sq h) (fun i x σ' Ha Hb hi hp hy => ?_) (fun σ' Ha hp => ?_)
  · obtain ⟨y3, y4, rfl, chi, cv, eRi, okR, eEi, bt, fr⟩ := hp
    obtain ⟨rfl, gx⟩ := hy
    rw [List.length_map] at hi
    have ge : es[i]? = some es[i] := List.getElem?_eq_getElem hi
    rw [List.getElem?_map, ge] at gx
    obtain rfl : V.int es[i] = x := Option.some.inj gx
    have ss := stI_succ (con := con) (wai := wai) ge
    have hm : es[i] ∈ es := List.getElem_mem hi
    generalize es[i] = e at ge ss hm
    obtain ⟨b, gb⟩ := inw e hm
    have cw := cv.w i e (Nat.le_refl _) ge
    have cv2 := cv.step nd ge gb
    rw [← ss] at cv2
    obtain ⟨dxi, gpi⟩ := chi.ins
    rw [gb] at cw
    have gw : gA (stI con wai es i).2.1 e = some b := cw.1
    have okb := chi.wa.ok _ (gA_some gw)
    obtain ⟨a, r, ea, ha⟩ := okb.at_
    have ea : b.1 = .ref a := ea
    have lst := cv.l
    have lst2 := cv.o
    walk_at "rds"
    refine ⟨p, _, dxi, _, _, rfl, gpi, T.cl_Chain, T.na_Chain__waiting, rfl, ?_⟩
    walk_at "rds"
    refine ⟨W, b.1, rfl, .inl ⟨_, Sum.inl e, .inl chi.wa.at_, rfl, by rw [subV_val, gw]; rfl⟩, ?_⟩
    rw [ea]
    walk_at "rds"
    refine ⟨a, _, 1, _, rfl, rfl, ha.sq, atI_nat (j := 1) rfl, ?_⟩
    walk_at "rds"
    refine ⟨p, _, dxi, _, _, rfl, gpi, T.cl_Chain, T.na_Chain__connected, rfl, ?_⟩
    refine ⟨A, _, rfl, DGet.k (k := Sum.inl (nD b.2)) chi.ca.at_, ?_⟩
    rw [subV_val]
    cases gc : gA (stI con wai es i).1 (nD b.2) with
    | none =>
      rw [conn1_none gw gc] at ss
      rw [ss] at cv2
      walk_at "rds"
      exact ⟨_, _, rfl, by rw [ss]; exact chi, by rw [ss]; exact cv2, by rw [ss]; exact eRi, by rw [ss]; exact okR, eEi, bt, fr⟩
    | some q0 =>
      walk_at "rds"
      refine ⟨p, _, dxi, _, _, rfl, gpi, T.cl_Chain, T.na_Chain__waiting, rfl, ?_⟩
      walk_at "rds"
      refine ⟨W, _, Sum.inl e, rfl, chi.wa.at_, rfl, by rw [subV_val, gw]; rfl, ?_⟩
      rw [dropK_rm]
      have ch3 := chi.delW e
      have tp3 := tp_upd (o := .dK (subV (rm (stI con wai es i).2.1 e))) chi.wa.at_ (by intro _ z; cases z)
      have nRW : R ≠ W := ne_kind eRi chi.wa.at_ (by intro z; cases z)
      have nRA : R ≠ A := ne_kind eRi chi.ca.at_ (by intro z; cases z)
      have nEW : ep ≠ W := ne_kind eEi chi.wa.at_ (by intro z; cases z)
      have nEA : ep ≠ A := ne_kind eEi chi.ca.at_ (by intro z; cases z)
      have eR3 : upd Hb W (.dK (subV (rm (stI con wai es i).2.1 e))) R = _ := (upd_ne nRW).trans eRi
      have eE3 : upd Hb W (.dK (subV (rm (stI con wai es i).2.1 e))) ep = _ := (upd_ne nEW).trans eEi
      have bt3 : But [A, W] H (upd Hb W (.dK (subV (rm (stI con wai es i).2.1 e)))) := bt.trans (but_upd (by simp))
      have fr3 : Fr H (upd Hb W (.dK (subV (rm (stI con wai es i).2.1 e)))) := fun l z => fr l (fr_upd chi.wa.at_ l z)
      have okb3 := okb.tp tp3
      have okR3 : ∀ x ∈ (stI con wai es i).2.2, OkB K _ x := fun x m => (okR x m).tp tp3
      generalize upd Hb W (.dK (subV (rm (stI con wai es i).2.1 e))) = H3 at ch3 eR3 eE3 bt3 fr3 okb3 okR3
      obtain ⟨dx3, gp3⟩ := ch3.ins
      walk_at "rds"
      refine ⟨p, _, dx3, _, _, rfl, gp3, T.cl_Chain, T.na_Chain__connected, rfl, ?_⟩
      walk_at "rds"
      refine ⟨A, _, b, by rw [ea]; rfl, ch3.ca, okb3, ?_⟩
      rw [gc]
      walk_at "rds"
      by_cases hh : hD b.2 = hD q0.2 + 1
      · rw [conn1_yes gw gc hh] at ss
        refine ifT (decide_eq_true hh) ?_
        walk_at "rds"
        refine ⟨p, _, dx3, _, _, rfl, gp3, T.cl_Chain, T.na_Chain__connected, rfl, ?_⟩
        walk_at "rds"
        rw [← ea]
        have l3 : (stI con wai es i).1.length < 1000 := by omega
        refine ⟨A, _, rfl, DPut.k (k := Sum.inl e) ch3.ca.at_ (by unfold subV; rw [kvs_len]; exact sz1000' (by omega)), ?_⟩
        rw [put_sub cw.2]
        have ch4 := ch3.addC okb3 cw.2 l3
        have tp4 := tp_upd (o := .dK (subV ((stI con wai es i).1 ++ [(e, b)]))) ch3.ca.at_ (by intro _ z; cases z)
        have eR4 : upd H3 A (.dK (subV ((stI con wai es i).1 ++ [(e, b)]))) R = _ := (upd_ne nRA).trans eR3
        have eE4 : upd H3 A (.dK (subV ((stI con wai es i).1 ++ [(e, b)]))) ep = _ := (upd_ne nEA).trans eE3
        have bt4 : But [A, W] H (upd H3 A (.dK (subV ((stI con wai es i).1 ++ [(e, b)])))) := bt3.trans (but_upd (by simp))
        have fr4 : Fr H (upd H3 A (.dK (subV ((stI con wai es i).1 ++ [(e, b)])))) := fun l z => fr3 l (fr_upd ch3.ca.at_ l z)
        have okb4 := okb3.tp tp4
        have okR4 : ∀ x ∈ (stI con wai es i).2.2, OkB K _ x := fun x m => (okR3 x m).tp tp4
        generalize upd H3 A (.dK (subV ((stI con wai es i).1 ++ [(e, b)]))) = H4 at ch4 eR4 eE4 bt4 fr4 okb4 okR4
        walk_at "rds"
        refine ⟨.inl ⟨rfl, _, sq eR4⟩, ?_⟩
        walk_at "rds"
        refine ⟨R, _, _, rfl, rfl, eR4, sz1000' (by rw [List.length_map]; omega), ?_⟩
        have em : (stI con wai es i).2.2.map (·.1) ++ [b.1] = ((stI con wai es i).2.2 ++ [b]).map (·.1) := by rw [List.map_append]; rfl
        have tp5 := tp_upd (o := .lst ((stI con wai es i).2.2.map (·.1) ++ [b.1])) eR4 (by intro _ z; cases z)
        have kR : ∀ c o, c ≠ R → H4 c = some o → upd H4 R (.lst ((stI con wai es i).2.2.map (·.1) ++ [b.1])) c = some o := fun c o n z => by rw [upd_ne n]; exact z
        have hRn : ∀ c o, H c = some o → c ≠ R := fun c o z y => by rw [y, hR0] at z; cases z
        have ch5 := ch4.lst eR4 (xs' := (stI con wai es i).2.2.map (·.1) ++ [b.1])
        have okR5 : ∀ x ∈ (stI con wai es i).2.2 ++ [b], OkB K (upd H4 R (.lst ((stI con wai es i).2.2.map (·.1) ++ [b.1]))) x := fun x m => by
          rcases List.mem_append.mp m with m | m
          · exact (okR4 x m).tp tp5
          · rw [List.mem_singleton.mp m]; exact okb4.tp tp5
        exact ⟨_, _, rfl, by rw [ss]; exact ch5, cv2, by rw [ss, upd_same, em], by rw [ss]; exact okR5, kR _ _ nRE.symm eE4, fun c o n z => kR c o (hRn c o z) (bt4 c o n z), fun l z => fr4 l (fr_upd eR4 l z)⟩
      · rw [conn1_no gw gc hh] at ss
        refine ifF (decide_eq_false hh) ?_
        exact ⟨_, _, rfl, by rw [ss]; exact ch3, cv2, by rw [ss]; exact eR3, by rw [ss]; exact okR3, eE3, bt3, fr3⟩
  · obtain ⟨y3, y4, rfl, chi, cv, eRi, okR, eEi, bt, fr⟩ := hp
    have ef : stI con wai es (es.map V.int).length = conn con wai es := by
      unfold stI
      rw [List.length_map, List.take_of_length_le (Nat.le_refl _)]
    rw [ef] at chi cv eRi okR
    rw [List.length_map] at cv
    have lo := cv.o
    walk_at "rds"
    refine ⟨R, (conn con wai es).2.2.map fun d => (d.1, (hD d.2, eD d.2)), rfl, rfl, by rw [List.map_map]; exact sq eRi, by rw [List.length_map]; omega, fun x m H1 s1 Q1 q1 => ?_, fun H1 ys l s1 pl pw hl => ?_⟩
    · obtain ⟨d, hd, rfl⟩ := List.mem_map.mp m
      exact ⟨d, rfl, (okR d hd).on s1, fun t ht => q1 t _ (same_upd ht) ht upd_same⟩
    · obtain ⟨zs, pz, ez⟩ := L2.perm_lift (fun d : VD => (d.1, (hD d.2, eD d.2))) pl (conn con wai es).2.2 rfl
      subst ez
      rw [List.map_map]
      have s2 : Same Ha (upd H1 l (.lst (zs.map fun d : VD => d.1))) := s1.trans (same_upd hl)
      have pw2 := List.pairwise_map.mp pw
      exact q _ es l zs pe se (bt.trans (Same.but s2)) (fun c z => fr c (same_none s2 z)) (chi.on s2) (fr l (same_none s1 hl)) upd_same pz pw2
end

/-! ### insert, connected, __init__ -/
def Refd (rt : VD) (con wai : Sub) (b : VD) : Prop := (gA con (eD b.2)).isSome = true ∨ (gA wai (eD b.2)).isSome = true ∨ eD b.2 ≤ eD rt.2 ∨ hD b.2 ≤ hD rt.2
def InsR (rt : VD) (con wai : Sub) (b : VD) (con' wai' : Sub) (out : List VD) : Prop := (Refd rt con wai b ∧ con' = con ∧ wai' = wai ∧ out = []) ∨
  (¬ Refd rt con wai b ∧ ∃ es : List Int, es.Perm ((wai ++ [(eD b.2, b)]).map (·.1)) ∧ es.Pairwise (· ≤ ·) ∧ con' = (conn con (wai ++ [(eD b.2, b)]) es).1 ∧ wai' = (conn con (wai ++ [(eD b.2, b)]) es).2.1 ∧ out = (conn con (wai ++ [(eD b.2, b)]) es).2.2)
def spInsert (Cc : Addr) (K : PySem.W.Frag) : Sp := fun vs H Q _ => ∃ (p A W : Addr) (rt b : VD) (con wai : Sub), vs = [.ref p, b.1] ∧ ChAt Cc K H p A W rt con wai ∧ OkB K H b ∧ wai.length < 63 ∧ con.length + wai.length ≤ 800 ∧ (∀ x ∈ wai, gA con x.1 = none) ∧
  ∀ H' l (zs : List VD) con' wai' out, InsR rt con wai b con' wai' out → But [A, W] H H' → Fr H H' → ChAt Cc K H' p A W rt con' wai' → H l = none → H' l = some (.lst (zs.map (·.1))) → zs.Perm out → zs.Pairwise (fun x y => LexP (hD x.2, eD x.2) (hD y.2, eD y.2)) → Q (.ref l) H'
def spConnected (Cc : Addr) (K : PySem.W.Frag) : Sp := fun vs H Q _ => ∃ (p A W : Addr) (rt : VD) (con wai : Sub) (e : Int), vs = [.ref p, .int e] ∧ ChAt Cc K H p A W rt con wai ∧ Q (((gA con e).map (·.1)).getD .non) H
def spChInit (Cc : Addr) (K : PySem.W.Frag) : Sp := fun vs H Q _ => ∃ (p dx : Addr) (rt : VD), vs = [.ref p, rt.1] ∧ H p = some (.ins Cc dx []) ∧ OkB K H rt ∧
  ∀ (H' : Hp) (A W : Addr), (∀ b o, H b = some o → b ≠ p → H' b = some o) → H A = none → H W = none → ChAt Cc K H' p A W rt [(eD rt.2, rt)] [] → Q .non H'
section
variable {P : Program} {w : World} {K : PySem.W.Frag} {mg : Str → Option Value} {base : Heap}
theorem m_Chain__insert {C_Chain : Addr} {C_BadBlock : Addr} (T : Txt K mg C_Chain C_BadBlock) : Met P w K mg base 5 C_Chain "insert" (spInsert C_Chain K) [] := by
  have m_Chain___connect_waiting := m_Chain___connect_waiting (P := P) (w := w) (K := K) (base := base) T
  refine met T.cl_Chain T.me_Chain__insert sc_Chain__insert (fun vs H Q E h => ?_) (fun f cdv A outer s H vs Q E hr h => ?_)
  · obtain ⟨p, A, W, rt, b, con, wai, rfl, _⟩ := h; rfl
  obtain ⟨p, A, W, rt, b, con, wai, rfl, ch, okb, l63, l800, apt, q⟩ := h
  obtain ⟨dx, gp⟩ := ch.ins
  obtain ⟨a, r, ea, ha⟩ := okb.at_
  obtain ⟨c, r2, ec, hc⟩ := ch.rt.at_
  have ref : Refd rt con wai b → ∀ l, H l = none → Q (.ref l) (upd H l (.lst [])) := fun rf l hl => q _ l [] con wai [] (.inl ⟨rf, rfl, rfl, rfl⟩) (Same.but (same_upd hl)) (Fr.same (same_upd hl)) (ch.on (same_upd hl)) hl upd_same (List.Perm.refl _) List.Pairwise.nil
  rw [ea]
  refine ⟨_, (pss_cons (ps_set (i := 2) sc_Chain__insert.nd rfl (Or.inl rfl) (pe_ix (kixt (K := K)) (pv 1) pe_int (fun _ _ => rfl)))
      (pss_cons (ps_if (PW.pt (pw_or (pt_cmp (pc_din (by exact hu_of hr) (pv 2) (pe_fld (pv 0) rfl))) (pw_or1 (pt_cmp (pc_din (by exact hu_of hr) (pv 2) (pe_fld (pv 0) rfl)))))) (pss_one (ps_ret (pe_lst pa_nil))) pss_nil)
      (pss_cons (ps_if (PW.pt (pw_or (pt_cmpR op_le (pv 2) (pe_ix (kixt (K := K)) (pe_fld (pv 0) rfl) pe_int (fun _ _ => rfl)) (nomark _)) (pw_or1 (pt_cmpR op_le (pe_ix (kixt (K := K)) (pv 1) pe_int (fun _ _ => rfl)) (pe_ix (kixt (K := K)) (pe_fld (pv 0) rfl) pe_int (fun _ _ => rfl)) (nomark _))))) (pss_one (ps_ret (pe_lst pa_nil))) pss_nil)
      (pss_cons (ps_dput (hu_of hr) (pe_fld (pv 0) rfl) (pv 2) (pv 1) rfl)
      (pss_one (ps_ret (pe_mt0 m_Chain___connect_waiting hr (by decide) (pv 0)))))))), ?_⟩
  walk_at "rds"
  refine ⟨a, _, 0, _, rfl, rfl, ha.sq, atI_nat (j := 0) rfl, ?_⟩
  walk_at "rds"
  refine ⟨p, _, dx, _, _, rfl, gp, T.cl_Chain, T.na_Chain__connected, rfl, ?_⟩
  refine ⟨A, _, rfl, DGet.k (k := Sum.inl (eD b.2)) ch.ca.at_, ?_⟩
  rw [subV_val]
  cases g1 : gA con (eD b.2) with
  | some y =>
    walk_at "rds"
    exact ref (.inl (by rw [g1]; rfl))
  | none =>
    walk_at "rds"
    refine ⟨p, _, dx, _, _, rfl, gp, T.cl_Chain, T.na_Chain__waiting, rfl, ?_⟩
    refine ⟨W, _, rfl, DGet.k (k := Sum.inl (eD b.2)) ch.wa.at_, ?_⟩
    rw [subV_val]
    cases g2 : gA wai (eD b.2) with
    | some y =>
      walk_at "rds"
      exact ref (.inr (.inl (by rw [g2]; rfl)))
    | none =>
      walk_at "rds"
      refine ⟨p, _, dx, _, _, rfl, gp, T.cl_Chain, T.na_Chain_root, rfl, ?_⟩
      walk_at "rds"
      refine ⟨c, _, 0, _, ec, rfl, hc.sq, atI_nat (j := 0) rfl, ?_⟩
      walk_at "rds"
      by_cases t1 : eD b.2 ≤ eD rt.2
      · refine ifT (decide_eq_true t1) ?_
        refine ifT rfl ?_
        walk_at "rds"
        exact ref (.inr (.inr (.inl t1)))
      refine ifF (decide_eq_false t1) ?_
      walk_at "rds"
      refine ⟨a, _, 2, _, rfl, rfl, ha.sq, atI_nat (j := 2) rfl, ?_⟩
      walk_at "rds"
      refine ⟨p, _, dx, _, _, rfl, gp, T.cl_Chain, T.na_Chain_root, rfl, ?_⟩
      walk_at "rds"
      refine ⟨c, _, 2, _, ec, rfl, hc.sq, atI_nat (j := 2) rfl, ?_⟩
      walk_at "rds"
      by_cases t2 : hD b.2 ≤ hD rt.2
      · refine ifT (decide_eq_true t2) ?_
        walk_at "rds"
        exact ref (.inr (.inr (.inr t2)))
      refine ifF (decide_eq_false t2) ?_
      walk_at "rds"
      refine ⟨p, _, dx, _, _, rfl, gp, T.cl_Chain, T.na_Chain__waiting, rfl, ?_⟩
      walk_at "rds"
      rw [← ea]
      refine ⟨W, _, rfl, DPut.k (k := Sum.inl (eD b.2)) ch.wa.at_ (by unfold subV; rw [kvs_len]; exact sz1000' (by omega)), ?_⟩
      rw [put_sub g2]
      have ch2 := ch.addW okb g2 (by omega)
      have bt2 : But [A, W] H (upd H W (.dK (subV (wai ++ [(eD b.2, b)])))) := but_upd (by simp)
      have fr2 : Fr H (upd H W (.dK (subV (wai ++ [(eD b.2, b)])))) := fr_upd ch.wa.at_
      generalize upd H W (.dK (subV (wai ++ [(eD b.2, b)]))) = H2 at ch2 bt2 fr2
      obtain ⟨dx2, gp2⟩ := ch2.ins
      walk_at "rds"
      refine ⟨p, dx2, _, rfl, gp2, rfl, ?_⟩
      walk_at "rds"
      refine ⟨p, A, W, rt, con, _, rfl, ch2, by rw [List.length_append, List.length_singleton]; omega, by rw [List.length_append, List.length_singleton]; omega, fun x m => ?_, fun H' es l zs pe se bt fr ch' hl el pz pw => ?_⟩
      · rcases List.mem_append.mp m with m | m
        · exact apt x m
        · rw [List.mem_singleton.mp m]; exact g1
      · refine q H' l zs _ _ _ (.inr ⟨fun rf => ?_, es, pe, se, rfl, rfl, rfl⟩) (bt2.trans bt) (fun y z => fr2 y (fr y z)) ch' (fr2 l hl) el pz pw
        rcases rf with h | h | h | h
        · rw [g1] at h; cases h
        · rw [g2] at h; cases h
        · exact t1 h
        · exact t2 h
theorem k_Chain {C_Chain : Addr} {C_BadBlock : Addr} (T : Txt K mg C_Chain C_BadBlock) : Mak P w K mg base 1 "Chain" C_Chain (spChInit C_Chain K) [] := by
  refine mak T.g_Chain T.mk_Chain sc_Chain____init__ (fun vs H Q E h => ?_) (fun f cdv A outer s H vs Q E hr h => ?_)
  · obtain ⟨p, dx, rt, rfl, _⟩ := h; rfl
  obtain ⟨p, dx, rt, rfl, hp, okr, q⟩ := h
  obtain ⟨c, r, ec, hc⟩ := okr.at_
  refine ⟨_, (pss_cons (ps_fld (pv 0) (pv 1) rfl)
      (pss_cons (ps_fld (pv 0) (pe_disp (pps_cons (pe_ix (kixt (K := K)) (pv 1) pe_int (fun _ _ => rfl)) (pv 1) pps_nil) rfl rfl (by intro z; cases z) (by decide)) rfl)
      (pss_one (ps_fld (pv 0) pe_dnewK rfl)))), ?_⟩
  walk_at "rds"
  refine ⟨p, _, dx, _, rfl, hp, T.cl_Chain, T.na_Chain_root, (by show 0 < 1000; decide), ?_⟩
  have fresh : ∀ {H3 : Hp} {x : Addr}, (∀ b o, H b = some o → b ≠ p → H3 b = some o) → (∃ o, H3 p = some o) → H3 x = none → H x = none ∧ x ≠ p := fun {H3 x} k e z => by
    have n : x ≠ p := fun y => by obtain ⟨o, e⟩ := e; rw [y, e] at z; cases z
    refine ⟨?_, n⟩
    cases hx : H x with
    | none => rfl
    | some o => rw [k x o hx n] at z; cases z
  have tp1 := tp_upd (o := .ins C_Chain dx (putF "root" rt.1 [])) hp (by intro _ z; cases z)
  have k1 : ∀ b o, H b = some o → b ≠ p → upd H p (.ins C_Chain dx (putF "root" rt.1 [])) b = some o := fun b o e n => by rw [upd_ne n]; exact e
  have p1 : upd H p (.ins C_Chain dx (putF "root" rt.1 [])) p = some (.ins C_Chain dx (putF "root" rt.1 [])) := upd_same
  have okr1 := okr.tp tp1
  have hc1 := hc.tp tp1
  generalize upd H p (.ins C_Chain dx (putF "root" rt.1 [])) = H1 at k1 p1 okr1 hc1
  refine fun A hA => ?_
  obtain ⟨fA, nA⟩ := fresh k1 ⟨_, p1⟩ hA
  have sA := same_upd (o := .dK []) hA
  have hc2 := hc1.same sA
  have eA : upd H1 A (.dK []) A = some (.dK []) := upd_same
  have okr2 := okr1.on sA
  walk_at "rds"
  refine ⟨c, _, 0, _, ec, rfl, hc2.sq, atI_nat (j := 0) rfl, ?_⟩
  walk_at "rds"
  refine ⟨eA, [(Sum.inl (eD rt.2), rt.1)], rfl, (by show 1 ≤ 15; decide), ?_⟩
  have em : mergeK [] [((Sum.inl (eD rt.2) : Key), rt.1)] = subV [(eD rt.2, rt)] := rfl
  rw [em]
  have k2 : ∀ b o, H b = some o → b ≠ p → upd (upd H1 A (.dK [])) A (.dK (subV [(eD rt.2, rt)])) b = some o := fun b o e n => by
    have nb : b ≠ A := fun z => by rw [z, fA] at e; cases e
    rw [upd_ne nb, upd_ne nb]; exact k1 b o e n
  have p2 : upd (upd H1 A (.dK [])) A (.dK (subV [(eD rt.2, rt)])) p = some (.ins C_Chain dx (putF "root" rt.1 [])) := by rw [upd_ne nA.symm, upd_ne nA.symm]; exact p1
  have a2 : upd (upd H1 A (.dK [])) A (.dK (subV [(eD rt.2, rt)])) A = some (.dK (subV [(eD rt.2, rt)])) := upd_same
  have ok2 : OkB K (upd (upd H1 A (.dK [])) A (.dK (subV [(eD rt.2, rt)]))) rt := okr2.tp (tp_upd eA (by intro _ z; cases z))
  generalize upd (upd H1 A (.dK [])) A (.dK (subV [(eD rt.2, rt)])) = H2 at k2 p2 a2 ok2
  walk_at "rds"
  refine ⟨p, _, dx, _, rfl, p2, T.cl_Chain, T.na_Chain__connected, (by show 1 < 1000; decide), ?_⟩
  have tp3 := tp_upd (o := .ins C_Chain dx (putF "_connected" (.ref A) (putF "root" rt.1 []))) p2 (by intro _ z; cases z)
  have k3 : ∀ b o, H b = some o → b ≠ p → upd H2 p (.ins C_Chain dx (putF "_connected" (.ref A) (putF "root" rt.1 []))) b = some o := fun b o e n => by rw [upd_ne n]; exact k2 b o e n
  have p3 : upd H2 p (.ins C_Chain dx (putF "_connected" (.ref A) (putF "root" rt.1 []))) p = some (.ins C_Chain dx (putF "_connected" (.ref A) (putF "root" rt.1 []))) := upd_same
  have a3 : upd H2 p (.ins C_Chain dx (putF "_connected" (.ref A) (putF "root" rt.1 []))) A = some (.dK (subV [(eD rt.2, rt)])) := by rw [upd_ne nA]; exact a2
  have ok3 := ok2.tp tp3
  generalize upd H2 p (.ins C_Chain dx (putF "_connected" (.ref A) (putF "root" rt.1 []))) = H3 at k3 p3 a3 ok3
  walk_at "rds"
  intro W hW
  obtain ⟨fW, nW⟩ := fresh k3 ⟨_, p3⟩ hW
  have nAW : A ≠ W := ne_of_none a3 hW
  have sW := same_upd (o := .dK []) hW
  have tp5 := tp_upd (o := .ins C_Chain dx (putF "_waiting" (.ref W) (putF "_connected" (.ref A) (putF "root" rt.1 [])))) (sW _ _ p3) (by intro _ z; cases z)
  walk_at "rds"
  refine ⟨p, _, dx, _, rfl, sW _ _ p3, T.cl_Chain, T.na_Chain__waiting, (by show 2 < 1000; decide), ?_⟩
  refine q _ A W (fun b o e n => by rw [upd_ne n]; exact sW _ _ (k3 b o e n)) fA fW ?_
  have ok5 := (ok3.on sW).tp tp5
  exact
    { ins := ⟨dx, upd_same⟩
      rt := ok5
      ca := ⟨by rw [upd_ne nA]; exact sW _ _ a3, fun x m => by rw [List.mem_singleton.mp m]; exact ok5, List.pairwise_singleton _ _, (by show 1 ≤ 1000; decide)⟩
      wa := ⟨by rw [upd_ne nW]; exact upd_same, fun _ m => (nomatch m), List.nodup_nil, Nat.zero_le _⟩
      aw := nAW }
end

/-! ### the law's functions -/
def rootD (e n h : Int) : PyData := .tuple [.int e, .int n, .int h, .tuple []]
theorem rootD_ok {K : PySem.W.Frag} {H : Hp} {v : V} {e n h : Int} (d : Dt K H none v (rootD e n h)) : OkB K H (v, rootD e n h) :=
  ⟨d, rfl, (ly_tup (k := 5) (ly_cons (ly_int _) (ly_cons (ly_int _) (ly_cons (ly_int _) (ly_cons ((ly_tup ly_nil : Ly 1 (.tuple [])).mono (by decide)) ly_nil))))), ⟨e, n, h, _, rfl⟩⟩
def spRoot (K : PySem.W.Frag) : Sp := fun vs H Q _ => ∃ c : Int, vs = [.int c] ∧ ∀ H' v e n h, Same H H' → Dt K H' none v (rootD e n h) → Q v H'
/-- blocks as the law builds them -/
structure BsOk (re rh : Int) (bs : List VD) : Prop where
  asc : bs.Pairwise fun x y => eD x.2 < eD y.2
  pl : ∀ b ∈ bs, (∃ e n h, b.2 = rootD e n h) ∧ re < eD b.2 ∧ re ≤ nD b.2 ∧ nD b.2 < eD b.2 ∧ rh < hD b.2
def spBlocks (K : PySem.W.Frag) : Sp := fun vs H Q _ => ∃ (rt : VD) (re rn rh : Int) (D : Addr) (ds : List Int), vs = [rt.1, .ref D] ∧ OkB K H rt ∧ rt.2 = rootD re rn rh ∧ H D = some (.lst (ds.map V.int)) ∧ (∀ d ∈ ds, 0 ≤ d) ∧ ds.length ≤ 50 ∧
  ∀ H' L (bs : List VD), Same H H' → H L = none → H' L = some (.lst (bs.map (·.1))) → (∀ b ∈ bs, OkB K H' b) → BsOk re rh bs → bs.length = ds.length → (∀ b ∈ bs, eD b.2 ≤ re + 2 * (ds.length : Int)) → Q (.ref L) H'
def exp1 (s : Sub) (b : VD) : Sub := match gA s (nD b.2) with
  | none => s
  | some p => if hD b.2 = hD p.2 + 1 then pA s (eD b.2) b else s
def expL (rt : VD) (bs : List VD) : Sub := bs.foldl exp1 [(eD rt.2, rt)]
def spLConn (K : PySem.W.Frag) : Sp := fun vs H Q _ => ∃ (rt : VD) (L : Addr) (bs : List VD), vs = [rt.1, .ref L] ∧ OkB K H rt ∧ H L = some (.lst (bs.map (·.1))) ∧ (∀ b ∈ bs, OkB K H b) ∧ bs.length ≤ 100 ∧
  ∀ H' D, Same H H' → H D = none → H' D = some (.dK (subV (expL rt bs))) → (∀ x ∈ expL rt bs, OkB K H' x.2) → Q (.ref D) H'
def spShuf (K : PySem.W.Frag) : Sp := fun vs H Q _ => ∃ (L D : Addr) (bs : List VD) (ds : List Int), vs = [.ref L, .ref D] ∧ H L = some (.lst (bs.map (·.1))) ∧ H D = some (.lst (ds.map V.int)) ∧ (∀ d ∈ ds, 0 ≤ d ∧ d < 1000000000000000000) ∧ bs.length ≤ 100 ∧
  ∀ H' R (cs : List VD), Same H H' → H R = none → H' R = some (.lst (cs.map (·.1))) → cs.Perm bs → Q (.ref R) H'
theorem map_erase0 {α β : Type} (f : α → β) : ∀ (l : List α) (j : Nat), (l.map f).eraseIdx j = (l.eraseIdx j).map f
  | [], _ => rfl
  | _ :: _, 0 => rfl
  | x :: r, j + 1 => by rw [List.map_cons, List.eraseIdx_cons_succ, List.eraseIdx_cons_succ, List.map_cons, map_erase0 f r j]
theorem erase_perm {α : Type} : ∀ {l : List α} {k : Nat} (h : k < l.length), ([l[k]] ++ l.eraseIdx k).Perm l
  | _ :: _, 0, _ => List.Perm.refl _
  | x :: r, k + 1, h => (List.Perm.swap x (r[k]'(Nat.lt_of_succ_lt_succ h)) (r.eraseIdx k)).trans ((erase_perm (l := r) (Nat.lt_of_succ_lt_succ h)).cons x)
theorem at_mem {zs : List VD} {i : Int} (h : -(zs.length : Int) ≤ i ∧ i < zs.length) : ∃ z, z ∈ zs ∧ atI (zs.map (·.1)) i = some z.1 := by
  have key : ∀ j : Nat, j < zs.length → ∃ z, z ∈ zs ∧ (zs.map (·.1))[j]? = some z.1 := fun j hj => ⟨zs[j], List.getElem_mem hj, by rw [List.getElem?_map, List.getElem?_eq_getElem hj]; rfl⟩
  unfold atI ixN
  rw [List.length_map]
  by_cases h0 : 0 ≤ i
  · obtain ⟨z, m, e⟩ := key i.toNat (by omega)
    refine ⟨z, m, ?_⟩
    rw [if_pos h0, if_pos h.2]; exact e
  · obtain ⟨z, m, e⟩ := key (i + zs.length).toNat (by omega)
    refine ⟨z, m, ?_⟩
    rw [if_neg h0, if_pos h.1]; exact e
section
variable {P : Program} {w : World} {K : PySem.W.Frag} {mg : Str → Option Value} {base : Heap}
theorem c__law_root {C_Chain : Addr} {C_BadBlock : Addr} (T : Txt K mg C_Chain C_BadBlock) : Cal P w K mg base 1 "_law_root" (spRoot K) [] := by
  refine cal T.d__law_root sc__law_root (fun vs H Q E h => ?_) (fun f cdv A outer s H vs Q E hr h => ?_)
  · obtain ⟨c, rfl, _⟩ := h; rfl
  obtain ⟨c, rfl, q⟩ := h
  refine ⟨_, (pss_cons (ps_if (pt_cmpR op_eq (pe_op op_mod (pv 0) pe_int) pe_int (nomark _)) (pss_one (ps_ret (pe_tup (pa_cons pe_int (pa_cons pe_int (pa_cons pe_int (pa_cons (pe_tup pa_nil) pa_nil))))))) pss_nil)
      (pss_one (ps_ret (pe_tup (pa_cons (pe_op op_add (pe_op op_mod (pe_op op_fdiv (pv 0) pe_int) pe_int) pe_int) (pa_cons (pe_op op_add (pe_op op_mod (pe_op op_fdiv (pv 0) pe_int) pe_int) pe_int) (pa_cons (pe_op op_add (pe_op op_mod (pe_op op_fdiv (pv 0) pe_int) pe_int) pe_int) (pa_cons (pe_tup pa_nil) pa_nil)))))))), ?_⟩
  walk_at "rds"
  refine ite2 (fun _ => ?_) (fun _ => ?_)
  · walk_at "rds"
    intro t ht
    have s1 := same_upd (o := .tup []) ht
    have d1 : Dt K (upd H t (.tup [])) none (.ref t) (.tuple []) := .tup (.inl upd_same) .nil
    generalize upd H t (.tup []) = H1 at s1 d1
    walk_at "rds"
    intro t2 ht2
    exact q _ _ 0 0 0 (s1.trans (same_upd ht2)) (.tup (.inl upd_same) (.cons (.int _) (.cons (.int _) (.cons (.int _) (.cons (d1.on (same_upd ht2)) .nil)))))
  · walk_at "rds"
    intro t ht
    have s1 := same_upd (o := .tup []) ht
    have d1 : Dt K (upd H t (.tup [])) none (.ref t) (.tuple []) := .tup (.inl upd_same) .nil
    generalize upd H t (.tup []) = H1 at s1 d1
    walk_at "rds"
    intro t2 ht2
    exact q _ _ _ _ _ (s1.trans (same_upd ht2)) (.tup (.inl upd_same) (.cons (.int _) (.cons (.int _) (.cons (.int _) (.cons (d1.on (same_upd ht2)) .nil)))))
theorem c__law_blocks {C_Chain : Addr} {C_BadBlock : Addr} (T : Txt K mg C_Chain C_BadBlock) : Cal P w K mg base 1 "_law_blocks" (spBlocks K) [] := by
  refine cal T.d__law_blocks sc__law_blocks (fun vs H Q E h => ?_) (fun f cdv A outer s H vs Q E hr h => ?_)
  · obtain ⟨rt, re, rn, rh, D, ds, rfl, _⟩ := h; rfl
  obtain ⟨rt, re, rn, rh, D, ds, rfl, okr, er, hD0, hds, lds, q⟩ := h
  obtain ⟨c, r, ec, hc⟩ := okr.at_
  refine ⟨_, (pss_cons (ps_set (i := 2) sc__law_blocks.nd rfl (Or.inl rfl) (pe_lst pa_nil))
      (pss_cons (ps_set (i := 3) sc__law_blocks.nd rfl (Or.inl rfl) (pe_ix (kixt (K := K)) (pv 0) pe_int (fun _ _ => rfl)))
      (pss_cons (ps_for PassesOwn.never rfl (pi_list (pv 1)) (pg_name (i := 4) sc__law_blocks.nd rfl (Or.inl rfl)) (pss_cons (ps_set (i := 3) sc__law_blocks.nd rfl (Or.inl rfl) (pe_op op_add (pe_op op_add (pv 3) pe_int) (pe_op op_fdiv (pe_op op_mod (pv 4) pe_int) pe_int)))
      (pss_cons (ps_set (i := 5) sc__law_blocks.nd rfl (Or.inl rfl) (pe_op op_cat (pe_lst (pa_cons (pv 0) pa_nil)) (pv 2)))
      (pss_cons (ps_set (i := 6) sc__law_blocks.nd rfl (Or.inl rfl) (pe_ix (kixl (K := K)) (pv 5) (pe_un un_neg pe_int) (fun _ _ => rfl)))
      (pss_cut (ps_if (pt_cmpR op_eq (pe_op op_mod (pe_op op_fdiv (pv 4) pe_int) pe_int) pe_int (nomark _)) (pss_one (ps_set (i := 6) sc__law_blocks.nd rfl (Or.inl rfl) (pe_ix (kixl (K := K)) (pv 5) (pe_op op_mod (pe_op op_fdiv (pv 4) pe_int) (pe_callB (klen (K := K)) (by rfl) T.z_len (by decide +kernel) (pa_cons (pv 5) pa_nil))) (fun _ _ => rfl)))) pss_nil)
      (pss_cons (ps_set (i := 7) sc__law_blocks.nd rfl (Or.inl rfl) (pe_op op_add (pe_ix (kixt (K := K)) (pv 6) pe_int (fun _ _ => rfl)) pe_int))
      (pss_cons (ps_set (i := 8) sc__law_blocks.nd rfl (Or.inl rfl) (pe_ix (kixt (K := K)) (pv 6) pe_int (fun _ _ => rfl)))
      (pss_cut (ps_if (pt_cmpR op_eq (pe_op op_mod (pe_op op_fdiv (pv 4) pe_int) pe_int) pe_int (nomark _)) (pss_one (ps_set (i := 7) sc__law_blocks.nd rfl (Or.inl rfl) (pe_op op_add (pe_op op_add (pv 7) pe_int) (pe_op op_mod (pe_op op_fdiv (pv 4) pe_int) pe_int)))) pss_nil)
      (pss_cut (ps_if (PW.pt (pw_and (pt_cmpR op_eq (pe_op op_mod (pe_op op_fdiv (pv 4) pe_int) pe_int) pe_int (nomark _)) (pw_and1 (pt_cmpR op_gt (pv 3) (pe_op op_add (pe_ix (kixt (K := K)) (pv 0) pe_int (fun _ _ => rfl)) pe_int) (nomark _))))) (pss_one (ps_set (i := 8) sc__law_blocks.nd rfl (Or.inl rfl) (pe_op op_add (pe_op op_add (pe_ix (kixt (K := K)) (pv 0) pe_int (fun _ _ => rfl)) pe_int) (pe_op op_mod (pe_op op_fdiv (pv 4) pe_int) (pe_op op_sub (pe_op op_sub (pv 3) (pe_ix (kixt (K := K)) (pv 0) pe_int (fun _ _ => rfl))) pe_int))))) pss_nil)
      (pss_cut (ps_if (PW.pt (pw_or (PW.pt (pw_and (pt_cmpR op_eq (pv 8) pe_int (nomark _)) (pw_and1 (pt_cmpR op_ne (pv 7) pe_int (nomark _))))) (pw_or1 (PW.pt (pw_and (pt_cmpR op_gt (pv 8) pe_int (nomark _)) (pw_and1 (PW.pt (pw_or (pt_cmpR op_lt (pv 7) pe_int (nomark _)) (pw_or1 (pt_cmpR op_gt (pv 7) (pe_op op_add (pv 8) pe_int) (nomark _))))))))))) (pss_cons (ps_set (i := 8) sc__law_blocks.nd rfl (Or.inl rfl) (pe_ix (kixt (K := K)) (pv 6) pe_int (fun _ _ => rfl)))
      (pss_one (ps_set (i := 7) sc__law_blocks.nd rfl (Or.inl rfl) (pe_op op_add (pe_ix (kixt (K := K)) (pv 6) pe_int (fun _ _ => rfl)) pe_int)))) pss_nil)
      (pss_one (ps_expr (pe_bm PySem.F.plainAttrs_list PySem.F.slot_list_append PySem.F.type_list_append mt_append (pv 2) (pa_cons (pe_tup (pa_cons (pv 3) (pa_cons (pv 8) (pa_cons (pv 7) (pa_cons (pe_tup pa_nil) pa_nil))))) pa_nil))))))))))))))
      (pss_one (ps_ret (pv 2)))))), ?_⟩
  walk_at "rds"
  intro L hL
  have s1 := same_upd (o := .lst []) hL
  have eL : upd H L (.lst []) L = some (.lst []) := upd_same
  have hc1 := hc.same s1
  have fL := hL
  generalize upd H L (.lst []) = H1 at s1 eL hc1
  have ere : eD rt.2 = re := by rw [er]; rfl
  have erh : hD rt.2 = rh := by rw [er]; rfl
  walk_at "rds"
  refine ⟨c, _, 0, _, ec, rfl, hc1.sq, atI_nat (j := 0) rfl, ?_⟩
  walk_at "rds"
  refine ⟨⟨_, sq (s1 _ _ hD0)⟩, ?_⟩
  refine for_it (walk_list (K := K) (a := D) (xs := ds.map V.int)) (Pv := fun i σ' H' => ∃ (bs : List VD) (e : Int) (y4 y5 y6 y7 y8 : Option V), σ' = [some rt.1, some (.ref D), some (.ref L), some (.int e), y4, y5, y6, y7, y8] ∧ Same H H' ∧ H' L = some (.lst (bs.map (·.1))) ∧ (∀ b ∈ bs, OkB K H' b) ∧ BsOk re rh bs ∧ re ≤ e ∧ (∀ b ∈ bs, eD b.2 ≤ e) ∧ bs.length = i ∧ e ≤ re + 2 * (i : Int)) ⟨[], _, none, none, none, none, none, rfl, s1, eL, (fun _ m => nomatch m), ⟨.nil, fun _ m => nomatch m⟩, by rw [ere]; exact Int.le_refl _, (fun _ m => nomatch m), rfl, (by rw [ere]; omega)⟩ (fun i σ' H' _ h => by obtain ⟨_, _, _, _, _, _, _, _, h, _⟩ := h; exact sq (h _ _ hD0)) (fun i x σ' Ha Hb hi hp hy => ?_) (fun σ' Ha hp => ?_)
  · obtain ⟨bs, e, y4, y5, y6, y7, y8, rfl, sm, eLi, okb, bk, re_e, ble, lb, eup⟩ := hp
    obtain ⟨rfl, gx⟩ := hy
    rw [List.length_map] at hi
    rw [List.getElem?_map, List.getElem?_eq_getElem hi] at gx
    obtain rfl : V.int ds[i] = x := Option.some.inj gx
    have d0 := hds _ (List.getElem_mem hi)
    generalize ds[i] = d at d0
    have okr1 := okr.on sm
    obtain ⟨e', he'⟩ : ∃ e', e + 1 + d % 5 / 4 = e' := ⟨_, rfl⟩
    have lee : e < e' := by omega
    walk_at "rds"
    have he2 : (fun i j => V.int (i + j)) (e + 1) (d % 5 / 4) = V.int e' := congrArg V.int he'
    rw [he2]
    intro q1 hq1
    have s2 := same_upd (o := .lst [rt.1]) hq1
    have eq1 : upd Hb q1 (.lst [rt.1]) q1 = some (.lst [rt.1]) := upd_same
    have nL1 := s2 _ _ eLi
    generalize upd Hb q1 (.lst [rt.1]) = Hc at s2 eq1 nL1
    walk_at "rds"
    refine ⟨q1, L, _, _, rfl, rfl, eq1, nL1, sz1000 (by simp only [List.length_map, List.length_singleton]; omega), fun q2 hq2 => ?_⟩
    have s3 := s2.trans (same_upd (o := .lst ([rt.1] ++ bs.map (·.1))) hq2)
    have eq2 : upd Hc q2 (.lst ([rt.1] ++ bs.map (·.1))) q2 = some (.lst ((rt :: bs).map (·.1))) := upd_same
    generalize upd Hc q2 (.lst ([rt.1] ++ bs.map (·.1))) = Hd at s3 eq2
    have zok : ∀ z ∈ rt :: bs, OkB K Hd z ∧ re ≤ eD z.2 ∧ eD z.2 ≤ e ∧ rh ≤ hD z.2 := fun z m => by
      rcases List.mem_cons.mp m with rfl | m
      · exact ⟨okr1.on s3, by rw [ere]; exact Int.le_refl _, by rw [ere]; exact re_e, by rw [erh]; exact Int.le_refl _⟩
      · obtain ⟨_, b1, b2, b3, b4⟩ := bk.pl z m
        exact ⟨(okb z m).on s3, Int.le_of_lt b1, ble z m, Int.le_of_lt b4⟩
    walk_at "rds"
    obtain ⟨pr, mpr, epr⟩ := at_mem (zs := rt :: bs) (i := -1) (by rw [List.length_cons]; omega)
    refine ⟨q2, _, _, _, rfl, rfl, sq eq2, epr, ?_⟩
    walk_at "rds"
    refine ⟨fun σ' H' => H' = Hd ∧ ∃ pr : VD, pr ∈ rt :: bs ∧ σ' = [some rt.1, some (.ref D), some (.ref L), some (.int e'), some (.int d), some (.ref q2), some pr.1, y7, y8], ?_, ?_⟩
    · walk_at "rds"
      refine ite2 (fun _ => ?_) (fun _ => ?_)
      · walk_at "rds"
        refine ⟨q2, _, rfl, .inl (sq eq2), ?_⟩
        rw [List.length_map]
        walk_at "rds"
        have lz : (0 : Int) < ((rt :: bs).length : Int) := by rw [List.length_cons]; omega
        refine ⟨lz, ?_⟩
        obtain ⟨z, mz, ez⟩ := at_mem (zs := rt :: bs) (i := d / 15 % ((rt :: bs).length : Int)) ⟨by have := Int.emod_nonneg (d / 15) (Int.ne_of_gt lz); omega, Int.emod_lt_of_pos _ lz⟩
        refine ⟨q2, _, _, _, rfl, rfl, sq eq2, ez, ?_⟩
        exact ⟨rfl, z, mz, rfl⟩
      · exact ⟨rfl, pr, mpr, rfl⟩
    clear epr mpr
    rintro σ' He ⟨rfl, pr, mpr, rfl⟩
    obtain ⟨okp, p1, p2, p3⟩ := zok pr mpr
    obtain ⟨pa, pr2, epa, hpa⟩ := okp.at_
    walk_at "rds"
    refine ⟨pa, _, 2, _, epa, rfl, hpa.sq, atI_nat (j := 2) rfl, ?_⟩
    walk_at "rds"
    refine ⟨pa, _, 0, _, epa, rfl, hpa.sq, atI_nat (j := 0) rfl, ?_⟩
    walk_at "rds"
    refine ⟨fun σ' H' => H' = He ∧ ∃ h : Int, hD pr.2 + 1 ≤ h ∧ σ' = [some rt.1, some (.ref D), some (.ref L), some (.int e'), some (.int d), some (.ref q2), some pr.1, some (.int h), some (.int (eD pr.2))], ?_, ?_⟩
    · walk_at "rds"
      refine ite2 (fun _ => ?_) (fun _ => ?_)
      · walk_at "rds"
        exact ⟨rfl, _, by omega, rfl⟩
      · exact ⟨rfl, _, Int.le_refl _, rfl⟩
    rintro σ' Hf ⟨rfl, h, lh, rfl⟩
    have hcf := hc.same (sm.trans s3)
    refine ⟨fun σ' H' => H' = Hf ∧ ∃ nm : Int, (re ≤ nm ∧ nm < e') ∧ σ' = [some rt.1, some (.ref D), some (.ref L), some (.int e'), some (.int d), some (.ref q2), some pr.1, some (.int h), some (.int nm)], ?_, ?_⟩
    · walk_at "rds"
      refine ite2 (fun _ => ?_) (fun _ => ?_)
      · walk_at "rds"
        refine ⟨c, _, 0, _, ec, rfl, hcf.sq, atI_nat (j := 0) rfl, ?_⟩
        walk_at "rds"
        refine ite2 (fun e2 => ?_) (fun e2 => ?_)
        · have e2 : eD rt.2 + 1 < e' := of_decide_eq_true e2
          walk_at "rds"
          refine ⟨c, _, 0, _, ec, rfl, hcf.sq, atI_nat (j := 0) rfl, ?_⟩
          walk_at "rds"
          refine ⟨c, _, 0, _, ec, rfl, hcf.sq, atI_nat (j := 0) rfl, ?_⟩
          walk_at "rds"
          have mp : (0 : Int) < e' - eD rt.2 - 1 := by omega
          have m1 := Int.emod_nonneg (d / 15) (Int.ne_of_gt mp)
          have m2 := Int.emod_lt_of_pos (d / 15) mp
          exact ⟨rfl, _, ⟨by omega, by omega⟩, rfl⟩
        · exact ⟨rfl, _, ⟨p1, by omega⟩, rfl⟩
      · exact ⟨rfl, _, ⟨p1, by omega⟩, rfl⟩
    rintro σ' Hg ⟨rfl, nm, ⟨n1, n2⟩, rfl⟩
    refine ⟨fun σ' H' => H' = Hg ∧ ∃ nm h : Int, (re ≤ nm ∧ nm < e') ∧ rh < h ∧ σ' = [some rt.1, some (.ref D), some (.ref L), some (.int e'), some (.int d), some (.ref q2), some pr.1, some (.int h), some (.int nm)], ?_, ?_⟩
    · have keep : Hg = Hg ∧ ∃ nm' h' : Int, (re ≤ nm' ∧ nm' < e') ∧ rh < h' ∧ [some rt.1, some (V.ref D), some (.ref L), some (.int e'), some (.int d), some (.ref q2), some pr.1, some (.int h), some (.int nm)] = [some rt.1, some (.ref D), some (.ref L), some (.int e'), some (.int d), some (.ref q2), some pr.1, some (.int h'), some (.int nm')] := ⟨rfl, nm, h, ⟨n1, n2⟩, by omega, rfl⟩
      walk_at "rds"
      refine ite2 (fun _ => ?_) (fun _ => ?_)
      · walk_at "rds"
        refine ite2 (fun _ => ?_) (fun _ => ?_)
        · refine ifT rfl ?_
          walk_at "rds"
          refine ⟨pa, _, 0, _, epa, rfl, hpa.sq, atI_nat (j := 0) rfl, ?_⟩
          walk_at "rds"
          refine ⟨pa, _, 2, _, epa, rfl, hpa.sq, atI_nat (j := 2) rfl, ?_⟩
          walk_at "rds"
          exact ⟨rfl, _, _, ⟨p1, by omega⟩, by omega, rfl⟩
        · walk_at "rds"
          refine ite2 (fun _ => ?_) (fun _ => ?_)
          · walk_at "rds"
            refine ite2 (fun _ => ?_) (fun _ => ?_)
            · refine ifT rfl ?_
              walk_at "rds"
              refine ⟨pa, _, 0, _, epa, rfl, hpa.sq, atI_nat (j := 0) rfl, ?_⟩
              walk_at "rds"
              refine ⟨pa, _, 2, _, epa, rfl, hpa.sq, atI_nat (j := 2) rfl, ?_⟩
              walk_at "rds"
              exact ⟨rfl, _, _, ⟨p1, by omega⟩, by omega, rfl⟩
            · walk_at "rds"
              refine ite2 (fun _ => ?_) (fun _ => ?_)
              · walk_at "rds"
                refine ⟨pa, _, 0, _, epa, rfl, hpa.sq, atI_nat (j := 0) rfl, ?_⟩
                walk_at "rds"
                refine ⟨pa, _, 2, _, epa, rfl, hpa.sq, atI_nat (j := 2) rfl, ?_⟩
                walk_at "rds"
                exact ⟨rfl, _, _, ⟨p1, by omega⟩, by omega, rfl⟩
              · exact keep
          · refine ifF rfl ?_
            exact keep
      · walk_at "rds"
        refine ite2 (fun _ => ?_) (fun _ => ?_)
        · walk_at "rds"
          refine ite2 (fun _ => ?_) (fun _ => ?_)
          · refine ifT rfl ?_
            walk_at "rds"
            refine ⟨pa, _, 0, _, epa, rfl, hpa.sq, atI_nat (j := 0) rfl, ?_⟩
            walk_at "rds"
            refine ⟨pa, _, 2, _, epa, rfl, hpa.sq, atI_nat (j := 2) rfl, ?_⟩
            walk_at "rds"
            exact ⟨rfl, _, _, ⟨p1, by omega⟩, by omega, rfl⟩
          · walk_at "rds"
            refine ite2 (fun _ => ?_) (fun _ => ?_)
            · walk_at "rds"
              refine ⟨pa, _, 0, _, epa, rfl, hpa.sq, atI_nat (j := 0) rfl, ?_⟩
              walk_at "rds"
              refine ⟨pa, _, 2, _, epa, rfl, hpa.sq, atI_nat (j := 2) rfl, ?_⟩
              walk_at "rds"
              exact ⟨rfl, _, _, ⟨p1, by omega⟩, by omega, rfl⟩
            · exact keep
        · refine ifF rfl ?_
          exact keep
    rintro σ' Hh ⟨rfl, nm, h, ⟨n1, n2⟩, rhh, rfl⟩
    have smh := sm.trans s3
    have eLh := s3 _ _ eLi
    walk_at "rds"
    refine ⟨.inl ⟨rfl, _, sq eLh⟩, ?_⟩
    walk_at "rds"
    intro t1 ht1
    have s5 := same_upd (o := .tup []) ht1
    have dt1 : Dt K (upd Hh t1 (.tup [])) none (.ref t1) (.tuple []) := .tup (.inl upd_same) .nil
    generalize upd Hh t1 (.tup []) = Hi at s5 dt1
    walk_at "rds"
    intro t2 ht2
    have s6 := s5.trans (same_upd (o := .tup [.int e', .int nm, .int h, .ref t1]) ht2)
    have dt2 : Dt K (upd Hi t2 (.tup [.int e', .int nm, .int h, .ref t1])) none (.ref t2) (rootD e' nm h) := .tup (.inl upd_same) (.cons (.int _) (.cons (.int _) (.cons (.int _) (.cons (dt1.on (same_upd ht2)) .nil))))
    generalize upd Hi t2 (.tup [V.int e', .int nm, .int h, .ref t1]) = Hj at s6 dt2
    have okn := rootD_ok dt2
    have eLj := s6 _ _ eLh
    walk_at "rds"
    refine ⟨L, _, _, rfl, rfl, eLj, sz1000' (by rw [List.length_map]; omega), ?_⟩
    have tpl := tp_upd (o := .lst (bs.map (·.1) ++ [.ref t2])) eLj (by intro _ z; cases z)
    refine ⟨bs ++ [(.ref t2, rootD e' nm h)], e', _, _, _, _, _, rfl, same_mut (smh.trans s6) fL, by rw [upd_same, List.map_append]; rfl, fun b m => ?_, ⟨?_, fun b m => ?_⟩, by omega, fun b m => ?_, by rw [List.length_append, lb]; rfl, by omega⟩
    · rcases List.mem_append.mp m with m | m
      · exact (((okb b m).on s3).on s6).tp tpl
      · rw [List.mem_singleton.mp m]; exact okn.tp tpl
    · refine List.pairwise_append.mpr ⟨bk.asc, List.pairwise_singleton _ _, fun x mx y my => ?_⟩
      rw [List.mem_singleton.mp my]
      have := ble x mx
      show eD x.2 < e'
      omega
    · rcases List.mem_append.mp m with m | m
      · exact bk.pl b m
      · rw [List.mem_singleton.mp m]
        exact ⟨⟨_, _, _, rfl⟩, (by show re < e'; omega), n1, n2, rhh⟩
    · rcases List.mem_append.mp m with m | m
      · have := ble b m; omega
      · rw [List.mem_singleton.mp m]; exact Int.le_refl _
  · obtain ⟨bs, e, y4, y5, y6, y7, y8, rfl, sm, eLi, okb, bk, re_e, ble, lb, eup⟩ := hp
    walk_at "rds"
    exact q _ L bs sm fL eLi okb bk (by rw [lb, List.length_map]) (fun b m => by have := ble b m; rw [List.length_map] at eup; omega)
theorem c__law_connected {C_Chain : Addr} {C_BadBlock : Addr} (T : Txt K mg C_Chain C_BadBlock) : Cal P w K mg base 1 "_law_connected" (spLConn K) [] := by
  refine cal T.d__law_connected sc__law_connected (fun vs H Q E h => ?_) (fun f cdv A outer s H vs Q E hr h => ?_)
  · obtain ⟨rt, L, bs, rfl, _⟩ := h; rfl
  obtain ⟨rt, L, bs, rfl, okr, hL, okb, lbs, q⟩ := h
  obtain ⟨c, r, ec, hc⟩ := okr.at_
  refine ⟨_, (pss_cons (ps_set (i := 2) sc__law_connected.nd rfl (Or.inl rfl) (pe_disp (pps_cons (pe_ix (kixt (K := K)) (pv 0) pe_int (fun _ _ => rfl)) (pv 0) pps_nil) rfl rfl (by intro z; cases z) (by decide)))
      (pss_cons (ps_for PassesOwn.never rfl (pi_list (pv 1)) (pg_name (i := 3) sc__law_connected.nd rfl (Or.inl rfl)) (pss_cons (ps_set (i := 4) sc__law_connected.nd rfl (Or.inl rfl) (pe_dget1 (hu1 hr) (pv 2) (pe_ix (kixt (K := K)) (pv 3) pe_int (fun _ _ => rfl)) ⟨by rfl, by rfl, by rfl, by rfl⟩))
      (pss_one (ps_if (PW.pt (pw_and (pt_cmpR op_notN (pv 4) pe_non (nomark _)) (pw_and1 (pt_cmpR op_eq (pe_ix (kixt (K := K)) (pv 3) pe_int (fun _ _ => rfl)) (pe_op op_add (pe_ix (kixt (K := K)) (pv 4) pe_int (fun _ _ => rfl)) pe_int) (nomark _))))) (pss_one (ps_dput (hu_of hr) (pv 2) (pe_ix (kixt (K := K)) (pv 3) pe_int (fun _ _ => rfl)) (pv 3) rfl)) pss_nil))))
      (pss_one (ps_ret (pv 2))))), ?_⟩
  walk_at "rds"
  refine fun F hF => ?_
  have sF := same_upd (o := .dK []) hF
  have eF : upd H F (.dK []) F = some (.dK []) := upd_same
  have hcF := hc.same sF
  walk_at "rds"
  refine ⟨c, _, 0, _, ec, rfl, hcF.sq, atI_nat (j := 0) rfl, ?_⟩
  walk_at "rds"
  refine ⟨eF, [(Sum.inl (eD rt.2), rt.1)], rfl, (by show 1 ≤ 15; decide), ?_⟩
  have em : mergeK [] [((Sum.inl (eD rt.2) : Key), rt.1)] = subV [(eD rt.2, rt)] := rfl
  rw [em]
  have s2 : Same H (upd (upd H F (.dK [])) F (.dK (subV [(eD rt.2, rt)]))) := same_mut sF hF
  have e2 : upd (upd H F (.dK [])) F (.dK (subV [(eD rt.2, rt)])) F = some (.dK (subV [(eD rt.2, rt)])) := upd_same
  generalize upd (upd H F (.dK [])) F (.dK (subV [(eD rt.2, rt)])) = H2 at s2 e2
  walk_at "rds"
  refine ⟨⟨_, sq (s2 _ _ hL)⟩, ?_⟩
  refine for_it (walk_list (K := K) (a := L) (xs := bs.map (·.1))) (Pv := fun i σ' H' => ∃ (y3 y4 : Option V), σ' = [some rt.1, some (.ref L), some (.ref F), y3, y4] ∧ Same H H' ∧ H' F = some (.dK (subV (expL rt (bs.take i)))) ∧ (∀ x ∈ expL rt (bs.take i), OkB K H' x.2) ∧ (expL rt (bs.take i)).length ≤ i + 1) ⟨none, none, rfl, s2, e2, (fun x m => by rw [List.mem_singleton.mp m]; exact okr.on s2), Nat.le_refl _⟩ (fun i σ' H' _ h => by obtain ⟨_, _, _, h, _⟩ := h; exact sq (h _ _ hL)) (fun i x σ' Ha Hb hi hp hy => ?_) (fun σ' Ha hp => ?_)
  · obtain ⟨y3, y4, rfl, sm, eFi, okx, lx⟩ := hp
    obtain ⟨rfl, gx⟩ := hy
    rw [List.length_map] at hi
    have gb : bs[i]? = some bs[i] := List.getElem?_eq_getElem hi
    rw [List.getElem?_map, gb] at gx
    obtain rfl : bs[i].1 = x := Option.some.inj gx
    have okbi := (okb _ (List.getElem_mem hi)).on sm
    have tk : expL rt (bs.take (i + 1)) = exp1 (expL rt (bs.take i)) bs[i] := by
      unfold expL
      rw [List.take_add_one, gb, List.foldl_append]; rfl
    generalize bs[i] = b at okbi tk
    generalize expL rt (bs.take i) = s0 at eFi okx lx tk
    obtain ⟨a, r5, ea, ha⟩ := okbi.at_
    rw [ea]
    walk_at "rds"
    refine ⟨.inl ⟨_, .inl eFi⟩, ?_⟩
    walk_at "rds"
    refine ⟨a, _, 1, _, rfl, rfl, ha.sq, atI_nat (j := 1) rfl, ?_⟩
    refine ⟨_, DGet.k (k := Sum.inl (nD b.2)) eFi, ?_⟩
    rw [subV_val]
    cases g : gA s0 (nD b.2) with
    | none =>
      have e1 : exp1 s0 b = s0 := by unfold exp1; rw [g]
      rw [e1] at tk
      walk_at "rds"
      exact ⟨_, _, rfl, sm, by rw [tk]; exact eFi, by rw [tk]; exact okx, by rw [tk]; omega⟩
    | some p =>
      obtain ⟨c2, r2, ec2, hc2⟩ := (okx _ (gA_some g)).at_
      have ec2 : p.1 = .ref c2 := ec2
      walk_at "rds"
      refine ifT (by show (!decide (p.1 = V.non)) = true; rw [ec2]; rfl) ?_
      walk_at "rds"
      refine ⟨a, _, 2, _, rfl, rfl, ha.sq, atI_nat (j := 2) rfl, ?_⟩
      walk_at "rds"
      refine ⟨c2, _, 2, _, ec2, rfl, hc2.sq, atI_nat (j := 2) rfl, ?_⟩
      walk_at "rds"
      by_cases hh : hD b.2 = hD p.2 + 1
      · have e1 : exp1 s0 b = pA s0 (eD b.2) b := by unfold exp1; rw [g]; exact if_pos hh
        rw [e1] at tk
        refine ifT (by rw [decV]; exact decide_eq_true hh) ?_
        walk_at "rds"
        refine ⟨a, _, 0, _, rfl, rfl, ha.sq, atI_nat (j := 0) rfl, ?_⟩
        refine ⟨F, _, rfl, DPut.k (k := Sum.inl (eD b.2)) eFi (by unfold subV; rw [kvs_len]; exact sz1000' (by omega)), ?_⟩
        have ep : putK (subV s0) (Sum.inl (eD b.2)) (V.ref a) = subV (pA s0 (eD b.2) b) := by
          rw [← ea]; unfold subV; rw [pA_kvs inlI (fun x : VD => x.1) s0 (eD b.2) b]
        rw [ep]
        have tp := tp_upd (o := .dK (subV (pA s0 (eD b.2) b))) eFi (by intro _ z; cases z)
        refine ⟨_, _, rfl, same_mut sm hF, by rw [tk]; exact upd_same, ?_, by rw [tk]; have := pA_len s0 (eD b.2) b; omega⟩
        rw [tk]
        intro x m
        rcases pA_mem m with rfl | ⟨m, _⟩
        · exact okbi.tp tp
        · exact (okx x m).tp tp
      · have e1 : exp1 s0 b = s0 := by unfold exp1; rw [g]; exact if_neg hh
        rw [e1] at tk
        refine ifF (by rw [decV]; exact decide_eq_false hh) ?_
        exact ⟨_, _, rfl, sm, by rw [tk]; exact eFi, by rw [tk]; exact okx, by rw [tk]; omega⟩
  · obtain ⟨y3, y4, rfl, sm, eFi, okx, lx⟩ := hp
    rw [List.length_map, List.take_of_length_le (Nat.le_refl _)] at eFi okx
    walk_at "rds"
    exact q _ F sm hF eFi okx
end

theorem units65 {k : Nat} {A : Around} (r : Room k A) : A.units + 65 < cLine := by have := r.un; omega
/-! ### inserting, as a matter of finite maps -/
theorem exp1_eq {E : Sub} {b : VD} (k : kOk E) (n : gA E (eD b.2) = none) : (exp1 E b = E ∧ ¬ ∃ p, gA E (nD b.2) = some p ∧ hD b.2 = hD p.2 + 1) ∨ (exp1 E b = E ++ [(eD b.2, b)] ∧ ∃ p, gA E (nD b.2) = some p ∧ hD b.2 = hD p.2 + 1) := by
  unfold exp1
  cases g : gA E (nD b.2) with
  | none => exact .inl ⟨rfl, fun ⟨p, h, _⟩ => nomatch h⟩
  | some p =>
    dsimp only
    by_cases h : hD b.2 = hD p.2 + 1
    · rw [if_pos h, pA_new n]; exact .inr ⟨rfl, p, rfl, h⟩
    · rw [if_neg h]; exact .inl ⟨rfl, fun ⟨q, e, h2⟩ => h (by cases e; exact h2)⟩
/-- what the expected blocks are -/
structure ExpOk (rt : VD) (re : Int) (bs : List VD) (E : Sub) : Prop where
  kk : kOk E
  root : gA E re = some rt
  iff : ∀ b ∈ bs, gA E (eD b.2) = some b ↔ ∃ p, gA E (nD b.2) = some p ∧ hD b.2 = hD p.2 + 1
  src : ∀ k b, gA E k = some b → (k = re ∧ b = rt) ∨ (b ∈ bs ∧ k = eD b.2)
theorem BsOk.snoc {re rh : Int} {bs : List VD} {b : VD} (h : BsOk re rh (bs ++ [b])) : BsOk re rh bs ∧ ∀ x ∈ bs, eD x.2 < eD b.2 := by
  obtain ⟨a, _, c⟩ := List.pairwise_append.mp h.asc
  exact ⟨⟨a, fun x m => h.pl x (List.mem_append_left _ m)⟩, fun x m => c x m b (List.mem_singleton.mpr rfl)⟩
theorem expL_snoc (rt : VD) (bs : List VD) (b : VD) : expL rt (bs ++ [b]) = exp1 (expL rt bs) b := by
  unfold expL; rw [List.foldl_append]; rfl
theorem expOk {rt : VD} {re rh : Int} (er : eD rt.2 = re) : ∀ {bs : List VD}, BsOk re rh bs → ExpOk rt re bs (expL rt bs) := by
  have key : ∀ n, ∀ bs : List VD, bs.length = n → BsOk re rh bs → ExpOk rt re bs (expL rt bs) := by
    intro n
    induction n with
    | zero =>
      intro bs l _
      rw [List.eq_nil_of_length_eq_zero l]
      have g : ∀ k, gA (expL rt []) k = if k = re then some rt else none := fun k => by
        show gA [(eD rt.2, rt)] k = _
        unfold gA
        rw [List.find?_cons, er]
        by_cases h : re = k
        · rw [decide_eq_true h, if_pos h.symm]; rfl
        · rw [decide_eq_false h, if_neg (fun z => h z.symm)]; rfl
      refine ⟨List.pairwise_singleton _ _, by rw [g, if_pos rfl], (fun _ m => nomatch m), fun k b h => ?_⟩
      rw [g] at h
      split at h
      · cases h; exact .inl ⟨by assumption, rfl⟩
      · cases h
    | succ n ih =>
      intro bs l h
      obtain ⟨bs', b, rfl⟩ : ∃ bs' b, bs = bs' ++ [b] := by
        rcases List.eq_nil_or_concat bs with rfl | ⟨x, y, z⟩
        · cases l
        · exact ⟨x, y, by rw [z, List.concat_eq_append]⟩
      obtain ⟨h', lt⟩ := h.snoc
      have I := ih bs' (by rw [List.length_append] at l; exact Nat.succ.inj l) h'
      obtain ⟨_, b1, b2, b3, b4⟩ := h.pl b (by simp)
      have nE : gA (expL rt bs') (eD b.2) = none := by
        cases g : gA (expL rt bs') (eD b.2) with
        | none => rfl
        | some y =>
          rcases I.src _ _ g with ⟨z, _⟩ | ⟨m, z⟩
          · omega
          · have := lt y m; omega
      rw [expL_snoc]
      rcases exp1_eq I.kk nE with ⟨e, no⟩ | ⟨e, p, gp, hp⟩
      · rw [e]
        refine ⟨I.kk, I.root, fun x m => ?_, fun k y g => ?_⟩
        · rcases List.mem_append.mp m with m | m
          · exact I.iff x m
          · rw [List.mem_singleton.mp m, nE]
            exact ⟨fun z => (nomatch z), fun z => absurd z no⟩
        · rcases I.src k y g with z | ⟨z, z2⟩
          · exact .inl z
          · exact .inr ⟨List.mem_append_left _ z, z2⟩
      · rw [e]
        have g' : ∀ k, k ≠ eD b.2 → gA (expL rt bs' ++ [(eD b.2, b)]) k = gA (expL rt bs') k := fun k n => by
          rw [gA_snoc, if_neg n]; cases gA (expL rt bs') k <;> rfl
        have gb : gA (expL rt bs' ++ [(eD b.2, b)]) (eD b.2) = some b := by rw [gA_snoc, nE, if_pos rfl]; rfl
        refine ⟨kOk_new I.kk nE, by rw [g' _ (by omega)]; exact I.root, fun x m => ?_, fun k y g => ?_⟩
        · rcases List.mem_append.mp m with m | m
          · have l1 := lt x m
            obtain ⟨_, x1, x2, x3, x4⟩ := h'.pl x m
            rw [g' _ (by omega), g' _ (by omega)]
            exact I.iff x m
          · rw [List.mem_singleton.mp m, gb, g' _ (by omega)]
            exact ⟨fun _ => ⟨p, gp, hp⟩, fun _ => rfl⟩
        · by_cases hk : k = eD b.2
          · rw [hk, gb] at g
            cases g
            exact .inr ⟨by simp, hk⟩
          · rw [g' _ hk] at g
            rcases I.src k y g with z | ⟨z, z2⟩
            · exact .inl z
            · exact .inr ⟨List.mem_append_left _ z, z2⟩
  intro bs h
  exact key _ bs rfl h
/-- the chain's two maps, against what is expected -/
structure ChI (rt : VD) (re : Int) (bs : List VD) (E con wai : Sub) (told : List VD) : Prop where
  ck : kOk con
  wk : kOk wai
  cr : gA con re = some rt
  ce : ∀ k b, gA con k = some b → gA E k = some b
  ws : ∀ k b, gA wai k = some b → b ∈ bs ∧ k = eD b.2 ∧ gA con k = none
  ct : con.Perm ((re, rt) :: told.map fun b => (eD b.2, b))
def Said (con wai : Sub) (b : VD) : Prop := gA con (eD b.2) = some b ∨ gA wai (eD b.2) = some b ∨ ∃ p, gA con (nD b.2) = some p ∧ hD b.2 ≠ hD p.2 + 1
/-- one block more -/
theorem bs_inj {re rh : Int} {bs : List VD} (h : BsOk re rh bs) {x y : VD} (mx : x ∈ bs) (my : y ∈ bs) (e : eD x.2 = eD y.2) : x = y := by
  obtain ⟨i, hi, rfl⟩ := List.getElem_of_mem mx
  obtain ⟨j, hj, rfl⟩ := List.getElem_of_mem my
  have p := List.pairwise_iff_getElem.mp h.asc
  rcases Nat.lt_trichotomy i j with l | l | l
  · have := p i j hi hj l; omega
  · subst l; rfl
  · have := p j i hj hi l; omega
/-- while the waiting blocks are gone through -/
structure Gone (rt : VD) (re : Int) (bs : List VD) (E con0 wai0 : Sub) (told : List VD) (es : List Int) (i : Nat) (st : Sub × Sub × List VD) : Prop where
  I : ChI rt re bs E st.1 st.2.1 (told ++ st.2.2)
  ext : ∀ k b, gA con0 k = some b → gA st.1 k = some b
  sub : ∀ k b, gA st.2.1 k = some b → gA wai0 k = some b
  said : ∀ k b, gA wai0 k = some b → Said st.1 st.2.1 b
  same : ∀ j e, i ≤ j → es[j]? = some e → gA st.2.1 e = gA wai0 e
  par : ∀ j e b, j < i → es[j]? = some e → gA st.2.1 e = some b → gA st.1 (nD b.2) = none
  len : st.1.length + st.2.1.length ≤ con0.length + wai0.length
  wl : st.2.1.length ≤ wai0.length
theorem gone_step {rt : VD} {re rh : Int} {bs : List VD} {E con0 wai0 : Sub} {told : List VD} {es : List Int} {i : Nat} {st : Sub × Sub × List VD} {e : Int} {b : VD} (hb : BsOk re rh bs) (hE : ExpOk rt re bs E) (h : Gone rt re bs E con0 wai0 told es i st) (asc : es.Pairwise (· < ·)) (g : es[i]? = some e) (gb : gA wai0 e = some b) : Gone rt re bs E con0 wai0 told es (i + 1) (conn1 st e) := by
  have w0 : gA st.2.1 e = some b := by rw [h.same i e (Nat.le_refl _) g, gb]
  obtain ⟨mb, ee, cn⟩ := h.I.ws _ _ w0
  obtain ⟨_, b1, b2, b3, b4⟩ := hb.pl b mb
  have ord : ∀ j e', j < i → es[j]? = some e' → e' < e := fun j e' hj g' => by
    obtain ⟨l1, rfl⟩ := List.getElem?_eq_some_iff.mp g'
    obtain ⟨l2, rfl⟩ := List.getElem?_eq_some_iff.mp g
    exact List.pairwise_iff_getElem.mp asc j i l1 l2 hj
  have ord2 : ∀ j e', i < j → es[j]? = some e' → e < e' := fun j e' hj g' => by
    obtain ⟨l1, rfl⟩ := List.getElem?_eq_some_iff.mp g'
    obtain ⟨l2, rfl⟩ := List.getElem?_eq_some_iff.mp g
    exact List.pairwise_iff_getElem.mp asc i j l2 l1 hj
  have ll := rm_lt w0
  have lh := h.len
  have lw := h.wl
  cases gc : gA st.1 (nD b.2) with
  | none =>
    rw [conn1_none w0 gc]
    refine ⟨h.I, h.ext, h.sub, h.said, fun j e' hj g' => h.same j e' (by omega) g', fun j e' x hj g' gx => ?_, lh, lw⟩
    by_cases hji : j = i
    · rw [hji, g] at g'
      cases g'
      rw [w0] at gx
      cases gx
      exact gc
    · exact h.par j e' x (by omega) g' gx
  | some p =>
    have rmg : ∀ k x, gA (rm st.2.1 e) k = some x → k ≠ e ∧ gA st.2.1 k = some x := fun k x z => by
      rw [gA_rm] at z
      by_cases hk : k = e
      · rw [if_pos hk] at z; cases z
      · rw [if_neg hk] at z; exact ⟨hk, z⟩
    by_cases hh : hD b.2 = hD p.2 + 1
    · rw [conn1_yes w0 gc hh]
      have gs : ∀ k, gA (st.1 ++ [(e, b)]) k = if k = e then some b else gA st.1 k := fun k => by
        rw [gA_snoc]
        by_cases hk : k = e
        · rw [if_pos hk, if_pos hk, hk, cn]; rfl
        · rw [if_neg hk, if_neg hk]; cases gA st.1 k <;> rfl
      have gex : ∀ k x, gA st.1 k = some x → gA (st.1 ++ [(e, b)]) k = some x := fun k x z => by
        rw [gs, if_neg (fun y => by rw [y, cn] at z; cases z)]; exact z
      have inE : gA E e = some b := by
        rw [ee]
        exact (hE.iff b mb).mpr ⟨p, h.I.ce _ _ gc, hh⟩
      refine ⟨⟨kOk_new h.I.ck cn, rm_ok h.I.wk, gex _ _ h.I.cr, fun k x z => ?_, fun k x z => ?_, ?_⟩, fun k x z => gex _ _ (h.ext k x z), fun k x z => h.sub k x (rmg k x z).2, fun k x z => ?_, fun j e' hj g' => ?_, fun j e' x hj g' gx => ?_, ?_, Nat.le_trans (Nat.le_of_lt ll) lw⟩
      · have z : gA (st.1 ++ [(e, b)]) k = some x := z
        rw [gs] at z
        by_cases hk : k = e
        · rw [if_pos hk] at z; cases z; rw [hk]; exact inE
        · rw [if_neg hk] at z; exact h.I.ce k x z
      · obtain ⟨n, z⟩ := rmg k x z
        obtain ⟨m, e1, c1⟩ := h.I.ws k x z
        exact ⟨m, e1, by show gA (st.1 ++ [(e, b)]) k = none; rw [gs, if_neg n]; exact c1⟩
      · show (st.1 ++ [(e, b)]).Perm _
        rw [← List.append_assoc, List.map_append, ← List.cons_append, ee]
        exact h.I.ct.append_right _
      · rcases h.said k x z with y | y | ⟨q, y, y2⟩
        · exact .inl (gex _ _ y)
        · by_cases hk : eD x.2 = e
          · rw [hk, w0] at y
            cases y
            exact .inl (by show gA (st.1 ++ [(e, b)]) _ = _; rw [gs, if_pos hk])
          · exact .inr (.inl (by show gA (rm st.2.1 e) _ = _; rw [gA_rm, if_neg hk]; exact y))
        · exact .inr (.inr ⟨q, gex _ _ y, y2⟩)
      · have n := ord2 j e' (by omega) g'
        show gA (rm st.2.1 e) e' = _
        rw [gA_rm, if_neg (by omega)]
        exact h.same j e' (by omega) g'
      · obtain ⟨n, gx⟩ := rmg e' x gx
        have hji : j < i := by
          rcases Nat.lt_or_ge j i with l | l
          · exact l
          · have : j = i := by omega
            rw [this, g] at g'; exact absurd (Option.some.inj g').symm n
        have l1 := ord j e' hji g'
        obtain ⟨mx, ex, _⟩ := h.I.ws _ _ gx
        obtain ⟨_, x1, x2, x3, x4⟩ := hb.pl x mx
        show gA (st.1 ++ [(e, b)]) (nD x.2) = none
        rw [gs, if_neg (by omega)]
        exact h.par j e' x hji g' gx
      · show (st.1 ++ [(e, b)]).length + (rm st.2.1 e).length ≤ _
        rw [List.length_append, List.length_singleton]; omega
    · rw [conn1_no w0 gc hh]
      refine ⟨⟨h.I.ck, rm_ok h.I.wk, h.I.cr, h.I.ce, fun k x z => h.I.ws k x (rmg k x z).2, h.I.ct⟩, h.ext, fun k x z => h.sub k x (rmg k x z).2, fun k x z => ?_, fun j e' hj g' => ?_, fun j e' x hj g' gx => ?_, ?_, Nat.le_trans (Nat.le_of_lt ll) lw⟩
      · rcases h.said k x z with y | y | y
        · exact .inl y
        · by_cases hk : eD x.2 = e
          · rw [hk, w0] at y
            cases y
            exact .inr (.inr ⟨p, gc, hh⟩)
          · exact .inr (.inl (by show gA (rm st.2.1 e) _ = _; rw [gA_rm, if_neg hk]; exact y))
        · exact .inr (.inr y)
      · have n := ord2 j e' (by omega) g'
        show gA (rm st.2.1 e) e' = _
        rw [gA_rm, if_neg (by omega)]
        exact h.same j e' (by omega) g'
      · obtain ⟨n, gx⟩ := rmg e' x gx
        have hji : j < i := by
          rcases Nat.lt_or_ge j i with l | l
          · exact l
          · have : j = i := by omega
            rw [this, g] at g'; exact absurd (Option.some.inj g').symm n
        exact h.par j e' x hji g' gx
      · show st.1.length + (rm st.2.1 e).length ≤ _
        omega
theorem gone_all {rt : VD} {re rh : Int} {bs : List VD} {E con0 wai0 : Sub} {told : List VD} {es : List Int} (hb : BsOk re rh bs) (hE : ExpOk rt re bs E) (h0 : Gone rt re bs E con0 wai0 told es 0 (con0, wai0, [])) (asc : es.Pairwise (· < ·)) (all : ∀ e ∈ es, ∃ b, gA wai0 e = some b) : Gone rt re bs E con0 wai0 told es es.length (conn con0 wai0 es) := by
  have key : ∀ i, i ≤ es.length → Gone rt re bs E con0 wai0 told es i (stI con0 wai0 es i) := by
    intro i
    induction i with
    | zero => intro _; exact h0
    | succ i ih =>
      intro hi
      have gi : es[i]? = some es[i] := List.getElem?_eq_getElem hi
      obtain ⟨b, gb⟩ := all _ (List.getElem_mem hi)
      rw [stI_succ gi]
      exact gone_step hb hE (ih (by omega)) asc gi gb
  have := key es.length (Nat.le_refl _)
  unfold stI at this
  rw [List.take_of_length_le (Nat.le_refl _)] at this
  exact this
/-- what holds between two inserts -/
structure Btw (rt : VD) (re : Int) (bs : List VD) (E con wai : Sub) (told done : List VD) : Prop where
  I : ChI rt re bs E con wai told
  par : ∀ k b, gA wai k = some b → gA con (nD b.2) = none
  said : ∀ b ∈ done, Said con wai b
  len : con.length + wai.length ≤ done.length + 1
  wl : wai.length ≤ done.length
theorem asc_lt : ∀ {es : List Int}, es.Pairwise (· ≤ ·) → es.Nodup → es.Pairwise (· < ·) := fun h n => (h.and n).imp fun ⟨a, b⟩ => by omega
theorem Btw.insert {rt : VD} {re rh : Int} {bs : List VD} {E con wai : Sub} {told done : List VD} {b : VD} {con' wai' : Sub} {out : List VD} (er : eD rt.2 = re) (eh : hD rt.2 = rh) (hb : BsOk re rh bs) (hE : ExpOk rt re bs E) (h : Btw rt re bs E con wai told done) (mb : b ∈ bs) (r : InsR rt con wai b con' wai' out) : Btw rt re bs E con' wai' (told ++ out) (done ++ [b]) := by
  obtain ⟨_, b1, b2, b3, b4⟩ := hb.pl b mb
  have cb : ∀ {x : VD}, gA con (eD b.2) = some x → x = b := fun {x} g => by
    rcases hE.src _ _ (h.I.ce _ _ g) with ⟨z, _⟩ | ⟨m, z⟩
    · omega
    · exact bs_inj hb m mb z.symm
  have wb : ∀ {x : VD}, gA wai (eD b.2) = some x → x = b := fun {x} g => by
    obtain ⟨m, z, _⟩ := h.I.ws _ _ g
    exact bs_inj hb m mb z.symm
  rcases r with ⟨rf, rfl, rfl, rfl⟩ | ⟨nr, es, pe, se, ec, ew, eo⟩
  · rw [List.append_nil]
    refine ⟨h.I, h.par, fun x m => ?_, by rw [List.length_append]; have := h.len; omega, by rw [List.length_append]; have := h.wl; omega⟩
    rcases List.mem_append.mp m with m | m
    · exact h.said x m
    · rw [List.mem_singleton.mp m]
      rcases rf with z | z | z | z
      · obtain ⟨y, g⟩ := Option.isSome_iff_exists.mp z
        rw [cb g] at g; exact .inl g
      · obtain ⟨y, g⟩ := Option.isSome_iff_exists.mp z
        rw [wb g] at g; exact .inr (.inl g)
      · omega
      · omega
  · have c0 : gA con (eD b.2) = none := by
      cases g : gA con (eD b.2) with
      | none => rfl
      | some y => exact absurd (.inl (by rw [g]; rfl)) nr
    have w0 : gA wai (eD b.2) = none := by
      cases g : gA wai (eD b.2) with
      | none => rfl
      | some y => exact absurd (.inr (.inl (by rw [g]; rfl))) nr
    have kw : kOk (wai ++ [(eD b.2, b)]) := kOk_new h.I.wk w0
    have gw : ∀ k, gA (wai ++ [(eD b.2, b)]) k = if k = eD b.2 then some b else gA wai k := fun k => by
      rw [gA_snoc]
      by_cases hk : k = eD b.2
      · rw [if_pos hk, if_pos hk, hk, w0]; rfl
      · rw [if_neg hk, if_neg hk]; cases gA wai k <;> rfl
    have nd : es.Nodup := pe.nodup_iff.mpr kw
    have g0 : Gone rt re bs E con (wai ++ [(eD b.2, b)]) told es 0 (con, wai ++ [(eD b.2, b)], []) := by
      refine ⟨⟨h.I.ck, kw, h.I.cr, h.I.ce, fun k x z => ?_, by rw [List.append_nil]; exact h.I.ct⟩, fun _ _ z => z, fun _ _ z => z, fun k x z => ?_, fun _ _ _ _ => rfl, fun j e x hj => absurd hj (Nat.not_lt_zero _), Nat.le_refl _, Nat.le_refl _⟩
      · have z : gA (wai ++ [(eD b.2, b)]) k = some x := z
        rw [gw] at z
        by_cases hk : k = eD b.2
        · rw [if_pos hk] at z; cases z; rw [hk]; exact ⟨mb, rfl, c0⟩
        · rw [if_neg hk] at z; exact h.I.ws k x z
      · have ek : k = eD x.2 := by
          rw [gw] at z
          by_cases hk : k = eD b.2
          · rw [if_pos hk] at z; cases z; exact hk
          · rw [if_neg hk] at z; exact (h.I.ws k x z).2.1
        exact .inr (.inl (by rw [← ek]; exact z))
    have G := gone_all hb hE g0 (asc_lt se nd) (fun e m => by
      have m2 := pe.mem_iff.mp m
      cases g : gA (wai ++ [(eD b.2, b)]) e with
      | none => exact absurd m2 (gA_none.mp g)
      | some y => exact ⟨y, rfl⟩)
    generalize conn con (wai ++ [(eD b.2, b)]) es = st at G ec ew eo
    subst ec ew eo
    refine ⟨G.I, fun k x z => ?_, fun x m => ?_, ?_, ?_⟩
    · have z2 := G.sub k x z
      have mk : k ∈ es := pe.mem_iff.mpr (by
        cases d : decide (k ∈ (wai ++ [(eD b.2, b)]).map (·.1)) with
        | true => exact of_decide_eq_true d
        | false => rw [gA_none.mpr (of_decide_eq_false d)] at z2; cases z2)
      obtain ⟨j, hj, rfl⟩ := List.getElem_of_mem mk
      exact G.par j _ x hj (List.getElem?_eq_getElem hj) z
    · rcases List.mem_append.mp m with m | m
      · rcases h.said x m with y | y | ⟨q, y, y2⟩
        · exact .inl (G.ext _ _ y)
        · refine G.said (eD x.2) x ?_
          rw [gw, if_neg (fun z => by rw [z, w0] at y; cases y)]; exact y
        · exact .inr (.inr ⟨q, G.ext _ _ y, y2⟩)
      · rw [List.mem_singleton.mp m]
        exact G.said (eD b.2) b (by rw [gw, if_pos rfl])
    · have := G.len
      have := h.len
      simp only [List.length_append, List.length_singleton] at *
      omega
    · have := G.wl
      have := h.wl
      simp only [List.length_append, List.length_singleton] at *
      omega
theorem Btw.init {rt : VD} {re : Int} {bs : List VD} {E : Sub} (hE : ExpOk rt re bs E) : Btw rt re bs E [(re, rt)] [] [] [] := by
  have g : ∀ k, gA [(re, rt)] k = if k = re then some rt else none := fun k => by
    unfold gA
    rw [List.find?_cons]
    by_cases h : re = k
    · rw [decide_eq_true h, if_pos h.symm]; rfl
    · rw [decide_eq_false h, if_neg (fun z => h z.symm)]; rfl
  refine ⟨⟨List.pairwise_singleton _ _, List.nodup_nil, by rw [g, if_pos rfl], fun k b z => ?_, fun k b z => (nomatch z), List.Perm.refl _⟩, fun k b z => (nomatch z), (fun _ m => nomatch m), Nat.le_refl _, Nat.le_refl _⟩
  rw [g] at z
  by_cases hk : k = re
  · rw [if_pos hk] at z; cases z; rw [hk]; exact hE.root
  · rw [if_neg hk] at z; cases z
theorem perm_gA {s t : Sub} (ks : kOk s) (kt : kOk t) (h : ∀ k b, gA s k = some b ↔ gA t k = some b) : s.Perm t := by
  refine (List.perm_ext_iff_of_nodup ?_ ?_).mpr fun x => ?_
  · exact (List.pairwise_map.mp ks).imp fun n z => n (by rw [z])
  · exact (List.pairwise_map.mp kt).imp fun n z => n (by rw [z])
  · exact ⟨fun m => gA_some ((h _ _).mp (gA_mem ks m)), fun m => gA_some ((h _ _).mpr (gA_mem kt m))⟩
/-- at the end the chain holds what is expected -/
theorem Btw.done {rt : VD} {re rh : Int} {bs : List VD} {E con wai : Sub} {told done : List VD} (hb : BsOk re rh bs) (hE : ExpOk rt re bs E) (h : Btw rt re bs E con wai told done) (all : ∀ b ∈ bs, b ∈ done) : (∀ k b, gA con k = some b ↔ gA E k = some b) ∧ con.Perm E := by
  have key : ∀ n : Nat, ∀ k b, (k - re).toNat < n → gA E k = some b → gA con k = some b := by
    intro n
    induction n with
    | zero => intro k b l; exact absurd l (Nat.not_lt_zero _)
    | succ n ih =>
      intro k b l g
      rcases hE.src k b g with ⟨rfl, rfl⟩ | ⟨m, rfl⟩
      · exact h.I.cr
      · obtain ⟨_, b1, b2, b3, b4⟩ := hb.pl b m
        obtain ⟨p, gp, hp⟩ := (hE.iff b m).mp g
        have cp := ih (nD b.2) p (by omega) gp
        rcases h.said b (all b m) with y | y | ⟨q, y, y2⟩
        · exact y
        · have := h.par _ _ y
          rw [cp] at this; cases this
        · rw [cp] at y; cases y; exact absurd hp y2
  have iff : ∀ k b, gA con k = some b ↔ gA E k = some b := fun k b => ⟨h.I.ce k b, key _ k b (Nat.lt_succ_self _)⟩
  exact ⟨iff, perm_gA h.I.ck hE.kk iff⟩
theorem ChI.told_len {rt : VD} {re : Int} {bs : List VD} {E con wai : Sub} {told : List VD} (h : ChI rt re bs E con wai told) : con.length = told.length + 1 := by
  rw [h.ct.length_eq, List.length_cons, List.length_map]
theorem ChI.told_mem {rt : VD} {re : Int} {bs : List VD} {E con wai : Sub} {told : List VD} (h : ChI rt re bs E con wai told) {b : VD} (m : b ∈ told) : gA con (eD b.2) = some b :=
  gA_mem (k := (eD b.2, b)) h.ck (h.ct.mem_iff.mpr (List.mem_cons_of_mem _ (List.mem_map.mpr ⟨b, m, rfl⟩)))
theorem ChI.told_bs {rt : VD} {re rh : Int} {bs : List VD} {E con wai : Sub} {told : List VD} (hE : ExpOk rt re bs E) (er : eD rt.2 = re) (h : ChI rt re bs E con wai told) {b : VD} (m : b ∈ told) : b ∈ bs := by
  rcases hE.src _ _ (h.ce _ _ (h.told_mem m)) with ⟨z, rfl⟩ | ⟨m2, _⟩
  · exfalso
    have := h.ct.map (fun x : Int × VD => x.1)
    have nd : ((re :: (told.map fun b => eD b.2)) : List Int).Nodup := by
      have e : (((re, b) :: told.map fun b => (eD b.2, b)) : Sub).map (·.1) = re :: told.map fun b => eD b.2 := by rw [List.map_cons, List.map_map]; rfl
      rw [← e]
      exact this.nodup_iff.mp h.ck
    exact (List.nodup_cons.mp nd).1 (List.mem_map.mpr ⟨b, m, z⟩)
  · exact m2
/-- the epochs that were told are distinct -/
theorem ChI.told_nodup {rt : VD} {re : Int} {bs : List VD} {E con wai : Sub} {told : List VD} (h : ChI rt re bs E con wai told) : (told.map fun b => eD b.2).Nodup := by
  have := (h.ct.map (fun x : Int × VD => x.1)).nodup_iff.mp h.ck
  rw [List.map_cons, List.map_map] at this
  exact (List.nodup_cons.mp this).2
theorem leP_unique : ∀ {ps qs : List (Int × Int)}, ps.Perm qs → ps.Pairwise leP → qs.Pairwise leP → ps = qs := fun {ps qs} p h1 h2 => by
  refine List.Perm.eq_of_pairwise ?_ h1 h2 p
  intro a b _ _ x y
  unfold leP at x y
  exact Prod.ext (by omega) (by omega)
theorem Btw.re {rt : VD} {re : Int} {bs : List VD} {E con wai : Sub} {told told' done : List VD} (h : Btw rt re bs E con wai told done) (p : told'.Perm told) : Btw rt re bs E con wai told' done :=
  { h with I := { h.I with ct := h.I.ct.trans ((p.symm.map _).cons _) } }
theorem eqv_eD {x y : PyData} (hx : IsB x) (hy : IsB y) (h : PyData.eqv x y = true) : eD x = eD y := by
  obtain ⟨e, n, i, r, rfl⟩ := hx
  obtain ⟨e', n', i', r', rfl⟩ := hy
  simp [PyData.eqv, PyData.eqvAll] at h
  exact h.1
theorem any_no {ds : List VD} {z : VD} (hz : IsB z.2) (h : ∀ d ∈ ds, IsB d.2 ∧ eD d.2 ≠ eD z.2) : ((ds.map (·.2)).any fun d => PyData.eqv d z.2) = false := by
  cases e : (ds.map (·.2)).any fun d => PyData.eqv d z.2 with
  | false => rfl
  | true =>
    obtain ⟨d, m, v⟩ := List.any_eq_true.mp e
    obtain ⟨x, mx, rfl⟩ := List.mem_map.mp m
    exact absurd (eqv_eD (h x mx).1 hz v) (h x mx).2
theorem any_yes {ds : List VD} {z : VD} (m : z ∈ ds) (h : PyData.eqv z.2 z.2 = true) : ((ds.map (·.2)).any fun d => PyData.eqv d z.2) = true :=
  List.any_eq_true.mpr ⟨_, List.mem_map.mpr ⟨z, m, rfl⟩, h⟩
theorem OkB.all {K : PySem.W.Frag} {H : Hp} : ∀ {ds : List VD}, (∀ d ∈ ds, OkB K H d) → DtAll K H none (ds.map (·.1)) (ds.map (·.2))
  | [], _ => .nil
  | d :: r, h => .cons (h d List.mem_cons_self).dt (OkB.all fun z m => h z (List.mem_cons_of_mem _ m))
theorem OkB.shl {K : PySem.W.Frag} {H : Hp} {ds : List VD} (h : ∀ d ∈ ds, OkB K H d) : SeqAt.shaped (.list (ds.map (·.2))) = true :=
  (shpL (Ly.mono (ly_lst (k := 6) fun d m => by obtain ⟨x, mx, rfl⟩ := List.mem_map.mp m; exact (h x mx).ly) (by decide))).1

/-! ### more blocks: what was expected stays so -/
theorem expMono {rt : VD} {re rh : Int} {bs bs' : List VD} {E E' : Sub} (hb : BsOk re rh bs) (hE : ExpOk rt re bs E) (hE' : ExpOk rt re bs' E') (sub : ∀ b ∈ bs, b ∈ bs') : ∀ k b, gA E k = some b → gA E' k = some b := by
  have key : ∀ n : Nat, ∀ k b, (k - re).toNat < n → gA E k = some b → gA E' k = some b := by
    intro n
    induction n with
    | zero => intro k b l; exact absurd l (Nat.not_lt_zero _)
    | succ n ih =>
      intro k b l g
      rcases hE.src k b g with ⟨rfl, rfl⟩ | ⟨m, rfl⟩
      · exact hE'.root
      · obtain ⟨_, b1, b2, b3, b4⟩ := hb.pl b m
        obtain ⟨p, gp, hp⟩ := (hE.iff b m).mp g
        exact (hE'.iff b (sub b m)).mpr ⟨p, ih (nD b.2) p (by omega) gp, hp⟩
  exact fun k b => key _ k b (Nat.lt_succ_self _)
theorem Btw.grow {rt : VD} {re : Int} {bs bs' : List VD} {E E' con wai : Sub} {told done : List VD} (h : Btw rt re bs E con wai told done) (sub : ∀ b ∈ bs, b ∈ bs') (mono : ∀ k b, gA E k = some b → gA E' k = some b) : Btw rt re bs' E' con wai told done :=
  ⟨⟨h.I.ck, h.I.wk, h.I.cr, fun k b z => mono k b (h.I.ce k b z), fun k b z => ⟨sub b (h.I.ws k b z).1, (h.I.ws k b z).2⟩, h.I.ct⟩, h.par, h.said, h.len, h.wl⟩
theorem BsOk.filter {re rh : Int} {bs : List VD} (h : BsOk re rh bs) (p : VD → Bool) : BsOk re rh (bs.filter p) := ⟨h.asc.sublist List.filter_sublist, fun b m => h.pl b (List.mem_filter.mp m).1⟩
theorem ExpOk.own {rt : VD} {re : Int} {bs : List VD} {E : Sub} (er : eD rt.2 = re) (hE : ExpOk rt re bs E) {k : Int} {b : VD} (g : gA E k = some b) : eD b.2 = k := by
  rcases hE.src k b g with ⟨rfl, rfl⟩ | ⟨_, rfl⟩
  · exact er
  · rfl
theorem ExpOk.ge {rt : VD} {re rh : Int} {bs : List VD} {E : Sub} (hb : BsOk re rh bs) (hE : ExpOk rt re bs E) {k : Int} {b : VD} (g : gA E k = some b) : re ≤ k := by
  rcases hE.src k b g with ⟨rfl, rfl⟩ | ⟨m, rfl⟩
  · exact Int.le_refl _
  · exact Int.le_of_lt (hb.pl b m).2.1

/-! ### highest -/
def leV (x y : VD) : Prop := LexP (hD x.2, eD x.2) (hD y.2, eD y.2)
def spHigh (K : PySem.W.Frag) : Sp := fun vs H Q _ => ∃ (L : Addr) (bs : List VD), vs = [.ref L] ∧ H L = some (.lst (bs.map (·.1))) ∧ (∀ b ∈ bs, OkB K H b) ∧ 0 < bs.length ∧ ∀ H' b, Same H H' → b ∈ bs → (∀ y ∈ bs, leV y b) → Q b.1 H'
section
variable {P : Program} {w : World} {K : PySem.W.Frag} {mg : Str → Option Value} {base : Heap}
theorem c_highest {C_Chain : Addr} {C_BadBlock : Addr} (T : Txt K mg C_Chain C_BadBlock) : Cal P w K mg base 3 "highest" (spHigh K) [] := by
  have c_place := c_place (P := P) (w := w) (K := K) (base := base) T
  obtain ⟨fp, mp, cap⟩ := cal_mg c_place
  refine cal T.d_highest sc_highest (fun vs H Q E h => ?_) (fun f cdv A outer s H vs Q E hr h => ?_)
  · obtain ⟨L, bs, rfl, _⟩ := h; rfl
  obtain ⟨L, bs, rfl, hL, okb, h0, q⟩ := h
  refine ⟨_, (pss_one (ps_ret (pe_callBK (cr_maxBy cap (hr.mono (by decide))) (by rfl) T.z_max (by decide +kernel) (pa_cons (pv 0) pa_nil) (pk_cons (pe_gc (v := .ref fp) (by rfl) ⟨_, mp, rfl⟩) pk_nil)))), ?_⟩
  walk_at "rds"
  refine ⟨L, bs.map fun b => (b.1, (hD b.2, eD b.2)), rfl, rfl, ?_, ?_, fun x mx H1 s1 Q1 h => ?_, fun H1 x s1 mx best => ?_⟩
  · rw [List.map_map]; exact .of hL
  · rw [List.length_map]; exact h0
  · obtain ⟨b, mb, rfl⟩ := List.mem_map.mp mx
    exact ⟨b, rfl, (okb b mb).on s1, fun t ht => h t _ (same_upd ht) ht upd_same⟩
  · obtain ⟨b, mb, rfl⟩ := List.mem_map.mp mx
    walk_at "rds"
    exact q H1 b s1 mb fun y my => best (y.1, (hD y.2, eD y.2)) (List.mem_map.mpr ⟨y, my, rfl⟩)
end

--@SPLIT
/-! ### tip, path -/
def spTip (Cc : Addr) (K : PySem.W.Frag) : Sp := fun vs H Q _ => ∃ (p A W : Addr) (rt : VD) (con wai : Sub), vs = [.ref p] ∧ ChAt Cc K H p A W rt con wai ∧ 0 < con.length ∧ con.length ≤ 100 ∧ ∀ H' b, Same H H' → (∃ k, (k, b) ∈ con) → (∀ k y, (k, y) ∈ con → leV y b) → Q b.1 H'
/-- the way down from an epoch to the root -/
inductive Path (s : Sub) (re : Int) : Int → List VD → Prop
  | nil : Path s re re []
  | cons {e : Int} {b : VD} {r : List VD} : e ≠ re → gA s e = some b → Path s re (nD b.2) r → Path s re e (b :: r)
def spPath (Cc B : Addr) (K : PySem.W.Frag) : Sp := fun vs H Q E => ∃ (p A W : Addr) (rt : VD) (con wai : Sub) (re e : Int), vs = [.ref p, .int e] ∧ ChAt Cc K H p A W rt con wai ∧ eD rt.2 = re ∧ ((gA con e = none ∧ E (.ref B) none H) ∨
  ∃ ls, gA con e ≠ none ∧ Path con re e ls ∧ ls.length ≤ 100 ∧ ∀ H' l, Same H H' → H l = none → H' l = some (.lst (ls.reverse.map (·.1))) → Q (.ref l) H')
section
variable {P : Program} {w : World} {K : PySem.W.Frag} {mg : Str → Option Value} {base : Heap}
theorem m_Chain__tip {C_Chain : Addr} {C_BadBlock : Addr} (T : Txt K mg C_Chain C_BadBlock) : Met P w K mg base 4 C_Chain "tip" (spTip C_Chain K) [] := by
  have c_highest := c_highest (P := P) (w := w) (K := K) (base := base) T
  refine met T.cl_Chain T.me_Chain__tip sc_Chain__tip (fun vs H Q E h => ?_) (fun f cdv A outer s H vs Q E hr h => ?_)
  · obtain ⟨p, A, W, rt, con, wai, rfl, _⟩ := h; rfl
  obtain ⟨p, A, W, rt, con, wai, rfl, ch, l0, l100, q⟩ := h
  obtain ⟨dx, gp⟩ := ch.ins
  refine ⟨_, (pss_one (ps_ret (pe_c c_highest hr (by decide) (by rfl) (pa_cons (pe_callTy (call_listVals rfl) (by rfl) T.z_list (by decide +kernel) (pa_cons (pe_bm0 PySem.F.plainAttrs_dict PySem.F.slot_dict_values PySem.F.type_dict_values mt_dvals (pe_fld (pv 0) rfl)) pa_nil)) pa_nil)))), ?_⟩
  walk_at "rds"
  refine ⟨p, _, dx, _, _, rfl, gp, T.cl_Chain, T.na_Chain__connected, rfl, ?_⟩
  refine ⟨.inr (.inr (.inl ⟨rfl, .inl ⟨_, ch.ca.at_⟩⟩)), ?_⟩
  refine ⟨A, _, rfl, rfl, ch.ca.at_, fun pv hpv => ?_⟩
  walk_at "rds"
  refine ⟨pv, A, _, rfl, upd_same, (same_upd hpv) _ _ ch.ca.at_, fun l hl => ?_⟩
  have s1 := (same_upd (o := viewO "dict_values" pv A) hpv).trans (same_upd (o := .lst ((subV con).map (·.2))) hl)
  obtain ⟨cs, hcs⟩ : ∃ cs : List VD, con.map (fun e : Int × VD => e.2) = cs := ⟨_, rfl⟩
  have el : upd (upd H pv (viewO "dict_values" pv A)) l (.lst ((subV con).map (·.2))) l = some (.lst (cs.map (·.1))) := by
    rw [upd_same, ← hcs]; unfold subV kvs; rw [List.map_map, List.map_map]; rfl
  generalize upd (upd H pv (viewO "dict_values" pv A)) l (.lst ((subV con).map (·.2))) = H1 at s1 el
  have ch1 := ch.on s1
  walk_at "rds"
  refine ⟨l, cs, rfl, el, fun b m => ?_, by rw [← hcs, List.length_map]; exact l0, fun H' b s2 mb best => ?_⟩
  · rw [← hcs] at m
    obtain ⟨e, me, rfl⟩ := List.mem_map.mp m
    exact ch1.ca.ok e me
  · refine q H' b (s1.trans s2) ?_ (fun k y m => best y ?_)
    · rw [← hcs] at mb
      obtain ⟨⟨k, e⟩, me, rfl⟩ := List.mem_map.mp mb
      exact ⟨k, me⟩
    · rw [← hcs]; exact List.mem_map.mpr ⟨(k, y), m, rfl⟩
theorem m_Chain__path {C_Chain : Addr} {C_BadBlock : Addr} (T : Txt K mg C_Chain C_BadBlock) : MetX P w K mg base 1 C_Chain "path" (spPath C_Chain C_BadBlock K) := by
  refine metX T.cl_Chain T.me_Chain__path sc_Chain__path (fun vs H Q E h => ?_) (fun f cdv A outer s H vs Q E hr h => ?_)
  · obtain ⟨p, A, W, rt, con, wai, re, e, rfl, _⟩ := h; rfl
  obtain ⟨p, A, W, rt, con, wai, re, e, rfl, ch, er, h⟩ := h
  obtain ⟨dx, gp⟩ := ch.ins
  obtain ⟨c, r, ec, hc⟩ := ch.rt.at_
  refine ⟨_, (pss_cons (ps_if (pt_cmp (pc_dnotin (by exact hu_of hr) (pv 1) (pe_fld (pv 0) rfl))) (pss_one (ps_raise rfl (takes_of rfl rfl rfl rfl) (pmk_ok T.x_BadBlock (by rfl)))) pss_nil)
      (pss_cons (ps_set (i := 2) sc_Chain__path.nd rfl (Or.inl rfl) (pe_lst pa_nil))
      (pss_cons (ps_while (passes_of rfl) (pt_cmpR op_ne (pv 1) (pe_ix (kixt (K := K)) (pe_fld (pv 0) rfl) pe_int (fun _ _ => rfl)) (nomark _)) (pss_cons (ps_set (i := 3) sc_Chain__path.nd rfl (Or.inl rfl) (pe_dget (by exact hu_of hr) (pe_fld (pv 0) rfl) (pv 1) (fun _ _ => rfl)))
      (pss_cons (ps_expr (pe_bm PySem.F.plainAttrs_list PySem.F.slot_list_append PySem.F.type_list_append mt_append (pv 2) (pa_cons (pv 3) pa_nil)))
      (pss_one (ps_set (i := 1) sc_Chain__path.nd rfl (Or.inl rfl) (pe_ix (kixt (K := K)) (pv 3) pe_int (fun _ _ => rfl)))))))
      (pss_one (ps_ret (pe_revL (pv 2))))))), ?_⟩
  walk_at "rds"
  refine ⟨p, _, dx, _, _, rfl, gp, T.cl_Chain, T.na_Chain__connected, rfl, ?_⟩
  refine ⟨A, _, rfl, DGet.k (k := Sum.inl e) ch.ca.at_, ?_⟩
  rw [subV_val]
  rcases h with ⟨g0, hE⟩ | ⟨ls, g0, pth, l100, q⟩
  · rw [g0]
    walk_at "rds"
    exact hE
  · obtain ⟨b0, gb0⟩ : ∃ b, gA con e = some b := by
      cases g : gA con e with
      | none => exact absurd g g0
      | some b => exact ⟨b, rfl⟩
    rw [gb0]
    walk_at "rds"
    intro B hB
    have s1 := same_upd (o := .lst []) hB
    have eB : upd H B (.lst []) B = some (.lst []) := upd_same
    have ch1 := ch.on s1
    generalize upd H B (.lst []) = H1 at s1 eB ch1
    walk_at "rds"
    refine ⟨fun m σ' H' => ∃ (e' : Int) (pre rest : List VD) (y3 : Option V), σ' = [some (.ref p), some (.int e'), some (.ref B), y3] ∧ Same H H' ∧ ChAt C_Chain K H' p A W rt con wai ∧ H' B = some (.lst (pre.map (·.1))) ∧ Path con re e' rest ∧ pre ++ rest = ls ∧ rest.length = m, ⟨ls.length, e, [], ls, none, rfl, s1, ch1, eB, pth, rfl, rfl⟩, fun m σ' Ha hp => ?_⟩
    obtain ⟨e', pre, rest, y3, rfl, s2, ch2, eB2, pth2, el, rfl⟩ := hp
    have hc2 := hc.same s2
    obtain ⟨dx2, gp2⟩ := ch2.ins
    walk_at "rds"
    refine ⟨p, _, dx2, _, _, rfl, gp2, T.cl_Chain, T.na_Chain_root, rfl, ?_⟩
    walk_at "rds"
    refine ⟨c, _, 0, _, ec, rfl, hc2.sq, atI_nat (j := 0) rfl, ?_⟩
    walk_at "rds"
    rw [decV, er]
    cases pth2 with
    | nil =>
      refine ifF (by rw [decide_eq_true rfl]; rfl) ?_
      rw [List.append_nil] at el
      subst el
      walk_at "rds"
      refine ⟨B, _, rfl, sq eB2, fun l hl => ?_⟩
      have eR : (pre.map fun x : VD => x.1).reverse = pre.reverse.map (·.1) := List.map_reverse.symm
      rw [eR]
      exact q _ l (s2.trans (same_upd hl)) (same_none s2 hl) upd_same
    | cons ne gb pr =>
      rename_i b rest
      have okb := ch2.ca.ok _ (gA_some gb)
      obtain ⟨a, r2, ea, ha⟩ := okb.at_
      refine ifT (by rw [decide_eq_false ne]; rfl) ?_
      have l2 : pre.length + (rest.length + 1) ≤ 100 := by rw [← el, List.length_append, List.length_cons] at l100; exact l100
      refine ⟨_, fun _ _ h => h, ?_⟩
      walk_at "rds"
      refine ⟨p, _, dx2, _, _, rfl, gp2, T.cl_Chain, T.na_Chain__connected, rfl, ?_⟩
      walk_at "rds"
      refine ⟨A, b.1, rfl, .inl ⟨_, Sum.inl e', .inl ch2.ca.at_, rfl, by rw [subV_val, gb]; rfl⟩, ?_⟩
      walk_at "rds"
      refine ⟨.inl ⟨rfl, _, sq eB2⟩, ?_⟩
      walk_at "rds"
      refine ⟨B, _, _, rfl, rfl, eB2, sz1000' (by rw [List.length_map]; omega), ?_⟩
      have tp3 := tp_upd (o := .lst (pre.map (·.1) ++ [b.1])) eB2 (by intro _ z; cases z)
      have ch3 := ch2.lst eB2 (xs' := pre.map (·.1) ++ [b.1])
      have s3 : Same H (upd Ha B (.lst (pre.map (·.1) ++ [b.1]))) := same_mut s2 hB
      have eB3 : upd Ha B (.lst (pre.map (·.1) ++ [b.1])) B = some (.lst ((pre ++ [b]).map (·.1))) := by rw [upd_same, List.map_append]; rfl
      have ha3 := ha.tp tp3
      have ea : b.1 = .ref a := ea
      rw [ea] at s3 eB3 ch3 ha3 ⊢
      generalize upd Ha B (.lst (pre.map (·.1) ++ [.ref a])) = H3 at s3 eB3 ch3 ha3
      walk_at "rds"
      refine ⟨a, _, 1, _, rfl, rfl, ha3.sq, atI_nat (j := 1) rfl, ?_⟩
      exact ⟨rest.length, Nat.lt_succ_self _, _, pre ++ [b], rest, _, rfl, s3, ch3, eB3, pr, by rw [List.append_assoc]; exact el, rfl⟩
end
/-! ### the law's own path -/
theorem Path.map {s t : Sub} {re : Int} (h : ∀ k b, gA s k = some b → gA t k = some b) : ∀ {e : Int} {ls : List VD}, Path s re e ls → Path t re e ls
  | _, _, .nil => .nil
  | _, _, .cons n g r => .cons n (h _ _ g) (r.map h)
theorem path_ex {rt : VD} {re rh : Int} {bs : List VD} {E : Sub} (hb : BsOk re rh bs) (hE : ExpOk rt re bs E) {k : Int} {b : VD} (g : gA E k = some b) : ∃ ls, Path E re k ls ∧ (ls.length : Int) ≤ k - re ∧ ∀ x ∈ ls, gA E (eD x.2) = some x := by
  have key : ∀ n : Nat, ∀ k b, (k - re).toNat < n → gA E k = some b → ∃ ls, Path E re k ls ∧ (ls.length : Int) ≤ k - re ∧ ∀ x ∈ ls, gA E (eD x.2) = some x := by
    intro n
    induction n with
    | zero => intro k b l; exact absurd l (Nat.not_lt_zero _)
    | succ n ih =>
      intro k b l g
      rcases hE.src k b g with ⟨rfl, rfl⟩ | ⟨m, rfl⟩
      · exact ⟨[], .nil, by simp, fun _ m => nomatch m⟩
      · obtain ⟨_, b1, b2, b3, b4⟩ := hb.pl b m
        obtain ⟨p, gp, hp⟩ := (hE.iff b m).mp g
        obtain ⟨ls, P, le, al⟩ := ih (nD b.2) p (by omega) gp
        refine ⟨b :: ls, .cons (by omega) g P, by rw [List.length_cons]; omega, fun x mx => ?_⟩
        rcases List.mem_cons.mp mx with rfl | mx
        · exact g
        · exact al x mx
  exact key _ k b (Nat.lt_succ_self _) g
def spLPath (K : PySem.W.Frag) : Sp := fun vs H Q _ => ∃ (F : Addr) (s : Sub) (rt b : VD) (re : Int) (bs ls : List VD), vs = [.ref F, rt.1, b.1] ∧ OkB K H rt ∧ eD rt.2 = re ∧ H F = some (.dK (subV s)) ∧ (∀ x ∈ s, OkB K H x.2) ∧ ExpOk rt re bs s ∧ gA s (eD b.2) = some b ∧ Path s re (eD b.2) ls ∧ ls.length ≤ 60 ∧
  ∀ H' l, Same H H' → H l = none → H' l = some (.lst (ls.reverse.map (·.1))) → Q (.ref l) H'
def spLRef (Cc : Addr) (K : PySem.W.Frag) : Sp := fun vs H Q _ => ∃ (p A W : Addr) (rt : VD) (con wai : Sub) (e : Int), vs = [.ref p, .int e] ∧ ChAt Cc K H p A W rt con wai ∧ gA con e = none ∧ Q (.bl true) H
section
variable {P : Program} {w : World} {K : PySem.W.Frag} {mg : Str → Option Value} {base : Heap}
theorem c__law_path {C_Chain : Addr} {C_BadBlock : Addr} (T : Txt K mg C_Chain C_BadBlock) : Cal P w K mg base 1 "_law_path" (spLPath K) [] := by
  refine cal T.d__law_path sc__law_path (fun vs H Q E h => ?_) (fun f cdv A outer s H vs Q E hr h => ?_)
  · obtain ⟨F, s, rt, b, re, bs, ls, rfl, _⟩ := h; rfl
  obtain ⟨F, s, rt, b, re, bs, ls, rfl, okr, er, hF, oks, hE, gb, pth, l60, q⟩ := h
  obtain ⟨c, r, ec, hc⟩ := okr.at_
  refine ⟨_, (pss_cons (ps_set (i := 3) sc__law_path.nd rfl (Or.inl rfl) (pe_lst pa_nil))
      (pss_cons (ps_while PassesOwn.never (PW.pt (pw_and (pt_cmpR op_ne (pe_ix (kixt (K := K)) (pv 2) pe_int (fun _ _ => rfl)) (pe_ix (kixt (K := K)) (pv 1) pe_int (fun _ _ => rfl)) (nomark _)) (pw_and1 (pt_cmpR op_lt (pe_callB (klen (K := K)) (by rfl) T.z_len (by decide +kernel) (pa_cons (pv 3) pa_nil)) pe_int (nomark _))))) (pss_cons (ps_set (i := 3) sc__law_path.nd rfl (Or.inl rfl) (pe_op op_cat (pe_lst (pa_cons (pv 2) pa_nil)) (pv 3)))
      (pss_one (ps_set (i := 2) sc__law_path.nd rfl (Or.inl rfl) (pe_dget (by exact hu_of hr) (pv 0) (pe_ix (kixt (K := K)) (pv 2) pe_int (fun _ _ => rfl)) (fun _ _ => rfl))))))
      (pss_one (ps_ret (pv 3))))), ?_⟩
  walk_at "rds"
  intro B hB
  have s1 := same_upd (o := .lst []) hB
  have eB : upd H B (.lst []) B = some (.lst []) := upd_same
  have fB := hB
  generalize upd H B (.lst []) = H1 at s1 eB
  walk_at "rds"
  refine ⟨fun m σ' H' => ∃ (cb : VD) (pre rest : List VD) (B : Addr), σ' = [some (.ref F), some rt.1, some cb.1, some (.ref B)] ∧ Same H H' ∧ H B = none ∧ H' B = some (.lst (pre.reverse.map (·.1))) ∧ gA s (eD cb.2) = some cb ∧ Path s re (eD cb.2) rest ∧ pre ++ rest = ls ∧ rest.length = m, ⟨ls.length, b, [], ls, B, rfl, s1, fB, eB, gb, pth, rfl, rfl⟩, fun m σ' Ha hp => ?_⟩
  obtain ⟨cb, pre, rest, B, rfl, s2, fB2, eB2, gcb, pth2, el, rfl⟩ := hp
  have hc2 := hc.same s2
  have okb := (oks _ (gA_some gcb)).on s2
  obtain ⟨a, r2, ea, ha⟩ := okb.at_
  have ea : cb.1 = .ref a := ea
  have l2 : pre.length + rest.length ≤ 60 := by rw [← el, List.length_append] at l60; exact l60
  walk_at "rds"
  refine ⟨a, _, 0, _, ea, rfl, ha.sq, atI_nat (j := 0) rfl, ?_⟩
  walk_at "rds"
  refine ⟨c, _, 0, _, ec, rfl, hc2.sq, atI_nat (j := 0) rfl, ?_⟩
  walk_at "rds"
  rw [decV, er]
  generalize hk : eD cb.2 = k at pth2 gcb
  cases pth2 with
  | nil =>
    refine ifF (by rw [decide_eq_true rfl]; rfl) ?_
    refine ifF rfl ?_
    rw [List.append_nil] at el
    subst el
    walk_at "rds"
    exact q _ B s2 fB2 eB2
  | cons ne gb pr =>
    rename_i b rest
    rw [gcb] at gb
    cases gb
    refine ifT (by rw [decide_eq_false ne]; rfl) ?_
    walk_at "rds"
    refine ⟨B, _, rfl, .inl (sq eB2), ?_⟩
    rw [List.length_map, List.length_reverse]
    walk_at "rds"
    have l3 : pre.length + (rest.length + 1) ≤ 60 := by rw [List.length_cons] at l2; exact l2
    refine ifT (decide_eq_true (by omega)) ?_
    refine ⟨_, fun _ _ h => h, ?_⟩
    walk_at "rds"
    intro q1 hq1
    have u1 := same_upd (o := .lst [cb.1]) hq1
    have e1 : upd Ha q1 (.lst [cb.1]) q1 = some (.lst [cb.1]) := upd_same
    have eB3 := u1 _ _ eB2
    have s3 := s2.trans u1
    generalize upd Ha q1 (.lst [cb.1]) = Hb at e1 eB3 s3
    walk_at "rds"
    refine ⟨q1, B, _, _, rfl, rfl, e1, eB3, sz1000 (by simp only [List.length_map, List.length_singleton, List.length_reverse]; omega), fun q2 hq2 => ?_⟩
    have u2 := same_upd (o := .lst ([cb.1] ++ pre.reverse.map (·.1))) hq2
    have s4 := s3.trans u2
    have e2 : upd Hb q2 (.lst ([cb.1] ++ pre.reverse.map (·.1))) q2 = some (.lst ((pre ++ [cb]).reverse.map (·.1))) := by rw [upd_same, List.reverse_append]; rfl
    have f2 := same_none s3 hq2
    generalize upd Hb q2 (.lst ([cb.1] ++ pre.reverse.map (·.1))) = Hc at s4 e2
    have okb4 := (oks _ (gA_some gcb)).on s4
    obtain ⟨a, r2, ea, ha⟩ := okb4.at_
    have ea : cb.1 = .ref a := ea
    have eF4 := s4 _ _ hF
    obtain ⟨nb, gn⟩ : ∃ nb, gA s (nD cb.2) = some nb := by
      cases pr with
      | nil => exact ⟨rt, hE.root⟩
      | cons _ g _ => exact ⟨_, g⟩
    have en := hE.own er gn
    walk_at "rds"
    refine ⟨a, _, 1, _, ea, rfl, ha.sq, atI_nat (j := 1) rfl, ?_⟩
    refine ⟨F, _, rfl, .inl ⟨_, Sum.inl (nD cb.2), .inl eF4, rfl, by rw [subV_val, gn]; rfl⟩, ?_⟩
    exact ⟨rest.length, Nat.lt_succ_self _, nb, pre ++ [cb], rest, q2, rfl, s4, f2, e2, by rw [en]; exact gn, by rw [en]; exact pr, by rw [List.append_assoc]; exact el, rfl⟩
theorem c__law_refused {C_Chain : Addr} {C_BadBlock : Addr} (T : Txt K mg C_Chain C_BadBlock) : Cal P w K mg base 2 "_law_refused" (spLRef C_Chain K) [] := by
  have m_Chain__path := m_Chain__path (P := P) (w := w) (K := K) (base := base) T
  refine cal T.d__law_refused sc__law_refused (fun vs H Q E h => ?_) (fun f cdv A' outer s H vs Q E hr h => ?_)
  · obtain ⟨p, A, W, rt, con, wai, e, rfl, _⟩ := h; rfl
  obtain ⟨p, A, W, rt, con, wai, e, rfl, ch, g0, q⟩ := h
  refine ⟨_, (pss_cons (ps_try_only (Wout := fun _ _ _ _ => False) rfl rfl ⟨by rfl, by decide, .inl T.x_BadBlock.g⟩ takes0 (fun W pn xe tk po => (pss_one (ps_expr (pe_mtX m_Chain__path hr (by decide) (fun σ => passAt tk σ) (pv 0) (pa_cons (pv 1) pa_nil))))) (fun a oe cls d pn _ _ => (pss_one (ps_ret pe_bl))))
      (pss_one (ps_ret pe_bl))), ?_⟩
  obtain ⟨dx, gp⟩ := ch.ins
  walk_at "rds"
  refine ⟨p, dx, _, rfl, gp, rfl, ?_⟩
  walk_at "rds"
  refine ⟨p, A, W, rt, con, wai, _, e, rfl, ch, rfl, .inl ⟨g0, ⟨true, T.x_BadBlock.exm T.u_BadBlock_BadBlock, fun _ a ha => ?_, fun z => nomatch z⟩⟩⟩
  walk_at "rds"
  exact q
end

section
variable {P : Program} {w : World} {K : PySem.W.Frag} {mg : Str → Option Value} {base : Heap}
theorem ok_law {C_Chain : Addr} {C_BadBlock : Addr} {f : Addr} {fd : FuncData} (F : L2.Fun K "law" "law" s_law f fd) (T : Txt K mg C_Chain C_BadBlock) : FnOk P w K mg base L2.CX0 8 f fd ["script"] (spLaw K) := by
  have c__law_cell := c__law_cell (P := P) (w := w) (base := base) T
  have c__law_draws := c__law_draws (P := P) (w := w) (base := base) T
  have c__law_root := c__law_root (P := P) (w := w) (K := K) (base := base) T
  have c__law_blocks := c__law_blocks (P := P) (w := w) (K := K) (base := base) T
  have c__law_connected := c__law_connected (P := P) (w := w) (K := K) (base := base) T
  have c__law_path := c__law_path (P := P) (w := w) (K := K) (base := base) T
  have c__law_refused := c__law_refused (P := P) (w := w) (K := K) (base := base) T
  have k_Chain := k_Chain (P := P) (w := w) (base := base) T
  have m_Chain__insert := m_Chain__insert (P := P) (w := w) (K := K) (base := base) T
  have m_Chain__tip := m_Chain__tip (P := P) (w := w) (K := K) (base := base) T
  have m_Chain__path := m_Chain__path (P := P) (w := w) (K := K) (base := base) T
  refine F.ok sc_law (fun vs H Q E h => ?_) (fun cdv A outer s H vs Q E hr h => ?_)
  · obtain ⟨a, ns, rfl, _⟩ := h; rfl
  obtain ⟨a, ns, rfl, hS, hlen, q⟩ := h
  refine ⟨_, (pss_cons (ps_set (i := 1) sc_law.nd rfl (Or.inl rfl) (pe_c c__law_root hr (by decide) (by rfl) (pa_cons (pe_c c__law_cell hr (by decide) (by rfl) (pa_cons (pv 0) (pa_cons pe_int pa_nil))) pa_nil)))
      (pss_cons (ps_set (i := 2) sc_law.nd rfl (Or.inl rfl) (pe_c c__law_blocks hr (by decide) (by rfl) (pa_cons (pv 1) (pa_cons (pe_c c__law_draws hr (by decide) (by rfl) (pa_cons (pv 0) (pa_cons pe_int (pa_cons pe_int pa_nil)))) pa_nil))))
      (pss_cons (ps_set (i := 3) sc_law.nd rfl (Or.inl rfl) (pe_mk k_Chain hr (by decide) (by rfl) (pa_cons (pv 1) pa_nil)))
      (pss_cons (ps_if (PW.pt (pw_or (pt_cmpR (op_neD hr.units) (pe_mt0 m_Chain__tip hr (by decide) (pv 3)) (pv 1) (nomark _)) (pw_or1 (pt_cmpR (op_neD hr.units) (pe_mtX m_Chain__path hr (by decide) no_pass (pv 3) (pa_cons (pe_ix (kixt (K := K)) (pv 1) pe_int (fun _ _ => rfl)) pa_nil)) (pe_lst pa_nil) (nomark _))))) (pss_one (ps_ret pe_bl)) pss_nil)
      (pss_cons (ps_for PassesOwn.never rfl (pi_range1 (by rfl) T.z_range (pa_cons (pe_callB (klen (K := K)) (by rfl) T.z_len (by decide +kernel) (pa_cons (pv 2) pa_nil)) pa_nil)) (pg_name (i := 4) sc_law.nd rfl (Or.inl rfl)) (pss_cons (ps_expr (pe_mt m_Chain__insert hr (by decide) (pv 3) (pa_cons (pe_ix (kixl (K := K)) (pv 2) (pv 4) (fun _ _ => rfl)) pa_nil)))
      (pss_cons (ps_set (i := 5) sc_law.nd rfl (Or.inr rfl) (pe_c c__law_connected hr (by decide) (by rfl) (pa_cons (pv 1) (pa_cons (pe_slice (ksll (K := K)) (pv 2) po_none (po_some (pe_op op_add (pv 4) pe_int))) pa_nil))))
      (pss_cons (ps_set (i := 6) sc_law.nd rfl (Or.inl rfl) (pe_callB (cr_maxDt rfl (units65 hr)) (by rfl) T.z_max (by decide +kernel) (pa_cons (pe_lock (pe_lc (own := [("epoch", 8)]) (g := gName 8) (by rfl) sc_law.nd (pi_keys (pv 5)) (blkOk_by (own := [("epoch", 8)]) (N := ["script", "root", "blocks", "chain", "k", "found", "best", "block", "epoch"]) (sc := defScope s_law) (by decide +kernel)) (fun _ _ _ _ _ => pg_name (i := 8) sc_law.nd rfl (Or.inl rfl)) (fun _ _ _ _ _ => pts_nil) (fun _ _ _ _ _ => (pe_tup (pa_cons (pe_ix (kixt (K := K)) (pe_dget (by exact hu_of hr) (pv 5) (pv 8) (fun _ _ => rfl)) pe_int (fun _ _ => rfl)) (pa_cons (pv 8) pa_nil)))))) pa_nil)))
      (pss_cons (ps_if (pt_cmpR (op_neD hr.units) (pe_mt0 m_Chain__tip hr (by decide) (pv 3)) (pe_dget (by exact hu_of hr) (pv 5) (pe_ix (kixt (K := K)) (pv 6) pe_int (fun _ _ => rfl)) (fun _ _ => rfl)) (nomark _)) (pss_one (ps_ret pe_bl)) pss_nil)
      (pss_cons (ps_set (i := 7) sc_law.nd rfl (Or.inl rfl) (pe_ix (kixl (K := K)) (pv 2) (pv 4) (fun _ _ => rfl)))
      (pss_one (ps_if (pt_cmp (pc_din (by exact hu_of hr) (pe_ix (kixt (K := K)) (pv 7) pe_int (fun _ _ => rfl)) (pv 5))) (pss_one (ps_if (pt_cmpR (op_neD hr.units) (pe_mtX m_Chain__path hr (by decide) no_pass (pv 3) (pa_cons (pe_ix (kixt (K := K)) (pv 7) pe_int (fun _ _ => rfl)) pa_nil)) (pe_c c__law_path hr (by decide) (by rfl) (pa_cons (pv 5) (pa_cons (pv 1) (pa_cons (pv 7) pa_nil)))) (nomark _)) (pss_one (ps_ret pe_bl)) pss_nil)) (pss_one (ps_if (pt_not (pt_val (pe_c c__law_refused hr (by decide) (by rfl) (pa_cons (pv 3) (pa_cons (pe_ix (kixt (K := K)) (pv 7) pe_int (fun _ _ => rfl)) pa_nil))))) (pss_one (ps_ret pe_bl)) pss_nil))))))))))
      (pss_one (ps_ret (pe_c c__law_refused hr (by decide) (by rfl) (pa_cons (pv 3) (pa_cons (pe_op op_add (pe_ix (kixt (K := K)) (pv 1) pe_int (fun _ _ => rfl)) pe_int) pa_nil)))))))))), ?_⟩
  walk_at "rds"
  refine ⟨a, ns, 0, rfl, hS, ?_⟩
  walk_at "rds"
  intro H1 rv re rn rh s1 drt
  have okr := rootD_ok drt
  walk_at "rds"
  refine ⟨a, ns, 1, 25, rfl, s1.seq hS, hlen, fun H2 D ds s2 fD hD hds lds => ?_⟩
  walk_at "rds"
  have okr3 := okr.on s2
  refine ⟨(rv, _), re, rn, rh, D, ds, rfl, okr3, rfl, hD, fun d m => (hds d m).1, by omega, fun H4 L bs s4 fL eL okb bk lb eup => ?_⟩
  have okr4 := okr3.on s4
  clear okr okr3 s4 s2 s1 hD drt fD
  walk_at "rds"
  intro p dx hp hdx npd
  have s7a := same_upd (o := .own p) hdx
  have hp1 : upd H4 dx (.own p) p = none := by rw [upd_ne npd.symm]; exact hp
  have s7 := s7a.trans (same_upd (o := .ins C_Chain dx []) hp1)
  have e7 : upd (upd H4 dx (.own p)) p (.ins C_Chain dx []) p = some (.ins C_Chain dx []) := upd_same
  generalize upd (upd H4 dx (.own p)) p (.ins C_Chain dx []) = H7 at s7 e7
  refine ⟨p, dx, (rv, rootD re rn rh), rfl, e7, okr4.on s7, fun H8 A W k8 fA fW ch0 => ?_⟩
  have s8 : Same H4 H8 := fun b o e => k8 b o (s7 b o e) (fun z => by rw [z, hp] at e; cases e)
  have fA6 := same_none s7 fA
  have fW6 := same_none s7 fW
  refine ⟨rfl, ?_⟩
  have eL8 := s8 _ _ eL
  have okb8 : ∀ b ∈ bs, OkB K H8 b := fun b m => (okb b m).on s8
  have okr8 := okr4.on s8
  have nLA : L ≠ A := ne_of_none eL fA6
  have nLW : L ≠ W := ne_of_none eL fW6
  have tpk : ∀ {H' : Hp}, But [A, W] H8 H' → Tp H8 H' := fun {H'} bt b xs e => bt b _ (fun m => by
    rcases List.mem_cons.mp m with z | m
    · rw [z, ch0.ca.at_] at e; cases e
    · rw [List.mem_singleton.mp m, ch0.wa.at_] at e; cases e) e
  clear k8 s8 e7 s7 s7a hp1 eL okb okr4
  obtain ⟨c, r, ec, hc⟩ := okr8.at_
  have ec : rv = .ref c := ec
  have shr := shpL (okr8.ly.mono (by decide))
  obtain ⟨dx0, gp0⟩ := ch0.ins
  have g00 : gA [(eD (rootD re rn rh), (rv, rootD re rn rh))] re = some (rv, rootD re rn rh) := by
    show gA [(re, _)] re = _
    unfold gA
    rw [List.find?_cons, decide_eq_true rfl]; rfl
  walk_at "rds"
  refine ⟨p, dx0, _, rfl, gp0, rfl, ?_⟩
  walk_at "rds"
  refine ⟨p, A, W, _, _, _, rfl, ch0, Nat.zero_lt_one, (by show 1 ≤ 100; decide), fun H9 b s9 mb best => ?_⟩
  obtain ⟨k, mb⟩ := mb
  cases List.mem_singleton.mp mb
  have okr9 := okr8.on s9
  have hc9 := hc.same s9
  have ch9 := ch0.on s9
  walk_at "rds"
  refine ⟨_, _, Dt.dp _ _ okr9.dt, Dt.dp _ _ okr9.dt, shr.1, shr.1, ?_⟩
  rw [shr.2]
  refine ⟨_, rfl, ?_⟩
  refine ifF rfl ?_
  obtain ⟨dx9, gp9⟩ := ch9.ins
  walk_at "rds"
  refine ⟨p, dx9, _, rfl, gp9, rfl, ?_⟩
  walk_at "rds"
  refine ⟨c, _, 0, _, ec, rfl, hc9.sq, atI_nat (j := 0) rfl, ?_⟩
  walk_at "rds"
  refine ⟨p, A, W, _, _, _, re, re, rfl, ch9, rfl, .inr ⟨[], by rw [g00]; exact fun z => (nomatch z), .nil, Nat.zero_le _, fun H10 l s10 fl el => ?_⟩⟩
  walk_at "rds"
  intro l2 hl2
  have s11 := s10.trans (same_upd (o := .lst []) hl2)
  have el1 := (same_upd (o := .lst []) hl2) _ _ el
  have e22 : upd H10 l2 (.lst []) l2 = some (.lst []) := upd_same
  generalize upd H10 l2 (.lst []) = H11 at s11 el1 e22
  refine ⟨.list [], .list [], .lst (.of el1) .nil, .lst (.of e22) .nil, rfl, rfl, ?_⟩
  refine ⟨_, rfl, ?_⟩
  refine ifF rfl ?_
  walk_at "rds"
  have s8b := s9.trans s11
  have ch11 := ch0.on s8b
  have bt11 : But [A, W] H8 H11 := Same.but s8b
  clear s9 s10 s11 okr9 hc9 ch9 gp9 gp0 el1 e22 el best mb
  have E0 := expOk (rt := (rv, rootD re rn rh)) (re := re) (rh := rh) rfl (bs := []) ⟨List.Pairwise.nil, fun _ m => nomatch m⟩
  have B0 := Btw.init E0
  have eL11 := bt11 L _ (by simp [nLA, nLW]) eL8
  refine ⟨L, _, rfl, .inl (sq eL11), ?_⟩
  rw [List.length_map]
  walk_at "rds"
  refine for_it walk_range (Pv := fun i σ' H' => ∃ (con wai : Sub) (told : List VD) (y4 y5 y6 y7 y8 : Option V), σ' = [some (.ref a), some rv, some (.ref L), some (.ref p), y4, y5, y6, y7, y8] ∧ But [A, W] H8 H' ∧ ChAt C_Chain K H' p A W (rv, rootD re rn rh) con wai ∧ Btw (rv, rootD re rn rh) re (bs.take i) (expL (rv, rootD re rn rh) (bs.take i)) con wai told (bs.take i)) ⟨_, _, [], none, none, none, none, none, rfl, bt11, ch11, B0⟩ (fun _ _ _ _ _ => trivial) (fun i x σ' Ha Hb hi hp hy => ?_) (fun σ' Ha hp => ?_)
  · obtain ⟨con, wai, told, y4, y5, y6, y7, y8, rfl, bt, ch, B⟩ := hp
    obtain ⟨rfl, hx⟩ := hy
    obtain rfl : x = V.int (i : Int) := hx.trans (congrArg V.int (Int.zero_add _))
    clear hx
    have gb : bs[i]? = some bs[i] := List.getElem?_eq_getElem hi
    have mb : bs[i] ∈ bs := List.getElem_mem hi
    have tk : bs.take (i + 1) = bs.take i ++ [bs[i]] := by rw [List.take_add_one, gb]; rfl
    have lt : (bs.take i).length = i := by rw [List.length_take]; omega
    have gv : (bs.map (·.1))[i]? = some bs[i].1 := by rw [List.getElem?_map, gb]; rfl
    have bk' : BsOk re rh (bs.take (i + 1)) := ⟨bk.asc.sublist (List.take_sublist _ _), fun b m => bk.pl b (List.mem_of_mem_take m)⟩
    have bk0 : BsOk re rh (bs.take i) := ⟨bk.asc.sublist (List.take_sublist _ _), fun b m => bk.pl b (List.mem_of_mem_take m)⟩
    have mem' : ∀ b ∈ bs.take (i + 1), b ∈ bs := fun b m => List.mem_of_mem_take m
    generalize bs[i] = b at gb mb tk gv
    have mb' : b ∈ bs.take (i + 1) := by rw [tk]; simp
    have hE0 := expOk (rt := (rv, rootD re rn rh)) (re := re) rfl bk0
    have hE := expOk (rt := (rv, rootD re rn rh)) (re := re) rfl bk'
    have sub : ∀ z ∈ bs.take i, z ∈ bs.take (i + 1) := fun z m => by rw [tk]; exact List.mem_append_left _ m
    have B1 := B.grow sub (expMono bk0 hE0 hE sub)
    have okb' := (okb8 b mb).tp (tpk bt)
    have hl1 := B.len
    have hl2 := B.wl
    rw [lt] at hl1 hl2
    have apt : ∀ x ∈ wai, gA con x.1 = none := fun x m => (B.I.ws x.1 x.2 (gA_mem B.I.wk m)).2.2
    obtain ⟨dx1, gp1⟩ := ch.ins
    have eLb := bt L _ (by simp [nLA, nLW]) eL8
    walk_at "rds"
    refine ⟨p, dx1, _, rfl, gp1, rfl, ?_⟩
    walk_at "rds"
    refine ⟨L, _, i, _, rfl, rfl, sq eLb, atI_nat gv, ?_⟩
    walk_at "rds"
    refine ⟨p, A, W, _, b, con, wai, rfl, ch, okb', by omega, by omega, apt, fun Hc l zs con' wai' out ir btc frc ch' hl el pz pw => ?_⟩
    have B' := B1.insert (re := re) (rh := rh) rfl rfl bk' hE mb' ir
    rw [← tk] at B'
    have bt1 : But [A, W] H8 Hc := bt.trans btc
    clear B1 B ch btc frc ir el pz pw hE0 bk0 sub apt okb'
    obtain ⟨iff, pce⟩ := B'.done bk' hE (fun _ m => m)
    have ck := B'.I.ck
    have lE : (expL (rv, rootD re rn rh) (bs.take (i + 1))).length ≤ 30 := by
      have h1 := pce.length_eq
      have h2 := B'.len
      have h3 : (bs.take (i + 1)).length ≤ i + 1 := List.length_take_le _ _
      omega
    have lC : con'.length ≤ 30 := by rw [pce.length_eq]; exact lE
    have hEo := hE
    have eLc := bt1 L _ (by simp [nLA, nLW]) eL8
    have okbc : ∀ b ∈ bs, OkB K Hc b := fun b m => (okb8 b m).tp (tpk bt1)
    have okrc := okr8.tp (tpk bt1)
    walk_at "rds"
    refine ⟨L, _, rfl, .of eLc, fun L2 hL2 => ?_⟩
    have u2 := same_upd (o := .lst ((bs.take (i + 1)).map (·.1))) hL2
    have eL2 : upd Hc L2 (.lst ((bs.take (i + 1)).map (·.1))) L2 = some (.lst ((bs.take (i + 1)).map (·.1))) := upd_same
    have e2 : upd Hc L2 (.lst (cutV (bs.map (·.1)) none (some ((i : Int) + 1)))) = upd Hc L2 (.lst ((bs.take (i + 1)).map (·.1))) := by
      rw [show ((i : Int) + 1) = ((i + 1 : Nat) : Int) by omega, cutV_take]
    rw [e2]
    generalize upd Hc L2 (.lst ((bs.take (i + 1)).map (·.1))) = Hd at u2 eL2
    walk_at "rds"
    refine ⟨(rv, rootD re rn rh), L2, bs.take (i + 1), rfl, okrc.on u2, eL2, fun b m => (okbc b (mem' b m)).on u2, by rw [List.length_take]; omega, fun He X s14 fX eX okX => ?_⟩
    have s15 := u2.trans s14
    generalize expL (rv, rootD re rn rh) (bs.take (i + 1)) = E at eX okX iff pce hE hEo lE B'
    walk_at "rds"
    refine ⟨X, _, eX, trivial, fun od => ?_⟩
    have lk : upd He X (.frz od (.dK (subV E))) X = some (.frz od (.dK (subV E))) := upd_same
    have un : ∀ H', Same (upd He X (.frz od (.dK (subV E)))) H' → Same He (upd H' X (.dK (subV E))) := fun H' s' => unlock_same eX s'
    have tp0 := tp_upd (o := .frz od (.dK (subV E))) eX (by intro _ z; cases z)
    have okX1 : ∀ x ∈ E, OkB K (upd He X (.frz od (.dK (subV E)))) x.2 := fun x m => (okX x m).tp tp0
    generalize upd He X (.frz od (.dK (subV E))) = Hf at lk un okX1
    walk_at "rds"
    refine ⟨X, od, rfl, .inl ⟨_, lk, fun M hM => ?_⟩⟩
    refine lc_it (walk_keys (d := X) (o := od) (kvs := subV E)) (Pv := fun j H' => ∃ ks, Same Hf H' ∧ H' M = some (.lst ks) ∧ PrL H' ks ((E.take j).map fun e => (hD e.2.2, e.1))) ⟨[], same_upd hM, upd_same, .nil⟩ (fun _ _ _ h => by obtain ⟨_, h, _⟩ := h; exact h _ _ lk) (fun j x H6 H7 hj hp hy => ?_) (fun H6 hp => ?_)
    · obtain ⟨ks, s6, eM, pk⟩ := hp
      obtain ⟨rfl, k, u, hkv, rfl⟩ := hy
      obtain ⟨⟨k0, z⟩, gl, e1⟩ : ∃ y : Int × VD, E[j]? = some y ∧ (Sum.inl y.1, y.2.1) = (k, u) := by
        unfold subV kvs at hkv
        rw [List.getElem?_map] at hkv
        cases g : E[j]? with
        | none => rw [g] at hkv; cases hkv
        | some y => rw [g] at hkv; exact ⟨y, rfl, Option.some.inj hkv⟩
      have e1 : (Sum.inl k0, z.1) = (k, u) := e1
      cases e1
      have ml := List.mem_of_getElem? gl
      have gk : gA E k0 = some z := gA_mem hE.kk ml
      have okz := (okX1 _ ml).on s6
      obtain ⟨az, rz, eaz, haz⟩ := okz.at_
      have tk2 : ((E.take (j + 1)).map fun e => (hD e.2.2, e.1)) = ((E.take j).map fun e => (hD e.2.2, e.1)) ++ [(hD z.2, k0)] := by rw [List.take_add_one, gl, List.map_append]; rfl
      have lk7 := s6 _ _ lk
      have lks := pk.length
      rw [List.length_map, List.length_take] at lks
      refine ⟨rfl, tyes ?_⟩
      walk_at "rds"
      refine ⟨X, _, rfl, .inl ⟨_, Sum.inl k0, .inr ⟨_, lk7⟩, rfl, by rw [subV_val, gk]; rfl⟩, ?_⟩
      walk_at "rds"
      refine ⟨az, _, 2, _, eaz, rfl, haz.sq, atI_nat (j := 2) rfl, ?_⟩
      walk_at "rds"
      intro t ht
      have ut := same_upd (o := .tup [.int (hD z.2), .int k0]) ht
      have pk2 := pk.on ut
      have eM2 := ut _ _ eM
      have s7 := s6.trans ut
      have et : upd H7 t (.tup [.int (hD z.2), .int k0]) t = some (.tup [.int (hD z.2), .int k0]) := upd_same
      have et2 : upd H7 t (.tup [.int (hD (k0, z).2.2), kV (Sum.inl k0)]) = upd H7 t (.tup [.int (hD z.2), .int k0]) := rfl
      rw [et2]
      generalize upd H7 t (.tup [V.int (hD z.2), .int k0]) = H8' at pk2 eM2 s7 et
      have tpl := tp_upd (o := .lst (ks ++ [.ref t])) eM2 (by intro _ z; cases z)
      exact ⟨ks, eM2, sz1000' (by omega), ks ++ [.ref t], same_mut s7 hM, upd_same, by rw [tk2]; exact (pk2.tp tpl).snoc (tpl _ _ et)⟩
    obtain ⟨ks, s6, eM, pk⟩ := hp
    rw [show (subV E).length = E.length by unfold subV; rw [kvs_len], List.take_of_length_le (Nat.le_refl _)] at pk
    have lkH := s6 _ _ lk
    refine ⟨lkH, ?_⟩
    have s16 := s15.trans (un _ s6)
    have s17 := un _ s6
    have nMX : M ≠ X := fun z => by rw [z, lkH] at eM; cases eM
    have eM2 : upd H6 X (.dK (subV E)) M = some (.lst ks) := by rw [upd_ne nMX]; exact eM
    have eX2 : upd H6 X (.dK (subV E)) X = some (.dK (subV E)) := upd_same
    have pk2 : PrL (upd H6 X (.dK (subV E))) ks (E.map fun e => (hD e.2.2, e.1)) := pk.tp (tp_upd lkH (by intro _ z; cases z))
    generalize upd H6 X (.dK (subV E)) = Hg at s16 s17 eM2 eX2 pk2
    clear lk un okX1 s6 eM pk lkH hM nMX tp0
    have lE1 : 0 < E.length := by
      have := pce.length_eq
      have h2 := B'.I.told_len
      omega
    walk_at "rds"
    refine max_pr eM2 pk2 (by rw [List.length_map]; exact lE1) fun tb bp mbp htb albp => ?_
    walk_at "rds"
    have chg := ch'.on s16
    obtain ⟨dxg, gpg⟩ := chg.ins
    refine ⟨p, dxg, _, rfl, gpg, rfl, ?_⟩
    walk_at "rds"
    refine ⟨p, A, W, _, con', wai', rfl, chg, by rw [pce.length_eq]; exact lE1, by omega, fun Hh y s18 my besty => ?_⟩
    obtain ⟨ky, my⟩ := my
    have gy : gA E ky = some y := (iff _ _).mp (gA_mem ck my)
    have ey := hE.own rfl gy
    obtain ⟨⟨kz, z⟩, mz, ez⟩ := List.mem_map.mp mbp
    have ez : (hD z.2, kz) = bp := ez
    subst ez
    have gz : gA E kz = some z := gA_mem hE.kk mz
    have ezk := hE.own rfl gz
    obtain rfl : y = z := by
      have h1 := besty kz z (gA_some ((iff _ _).mpr gz))
      have h1 : hD z.2 < hD y.2 ∨ (hD z.2 = hD y.2 ∧ eD z.2 ≤ eD y.2) := h1
      have h2 := albp (hD y.2, ky) (List.mem_map.mpr ⟨(ky, y), gA_some gy, rfl⟩)
      have h2 : hD y.2 < hD z.2 ∨ (hD y.2 = hD z.2 ∧ ky ≤ kz) := h2
      have : ky = kz := by omega
      rw [this, gz] at gy
      exact (Option.some.inj gy).symm
    have htb2 := s18 _ _ htb
    have eX3 := s18 _ _ eX2
    walk_at "rds"
    refine ⟨tb, _, 1, _, rfl, rfl, .of htb2, atI_nat (j := 1) rfl, ?_⟩
    refine ⟨X, _, rfl, .inl ⟨_, Sum.inl kz, .inl eX3, rfl, by rw [subV_val, gz]; rfl⟩, ?_⟩
    have s19 := s17.trans s18
    have oky := (okX _ (gA_some gz)).on s19
    have shy := shpL (oky.ly.mono (by decide))
    refine ⟨_, _, Dt.dp _ _ oky.dt, Dt.dp _ _ oky.dt, shy.1, shy.1, ?_⟩
    rw [shy.2]
    refine ⟨_, rfl, ?_⟩
    refine ifF rfl ?_
    walk_at "rds"
    have s20 := s16.trans s18
    have eLh := s20 _ _ eLc
    refine ⟨L, _, i, _, rfl, rfl, sq eLh, atI_nat gv, ?_⟩
    walk_at "rds"
    have okbh := (okbc b mb).on s20
    obtain ⟨ab, rb, eab, hab⟩ := okbh.at_
    have bt2 : But [A, W] H8 Hh := bt1.trans (Same.but s20)
    have chh := ch'.on s20
    refine ⟨ab, _, 0, _, eab, rfl, hab.sq, atI_nat (j := 0) rfl, ?_⟩
    walk_at "rds"
    have eXh := s18 _ _ eX2
    refine ⟨X, _, rfl, DGet.k (k := Sum.inl (eD b.2)) eXh, ?_⟩
    rw [subV_val]
    obtain ⟨dxh, gph⟩ := chh.ins
    cases g : gA E (eD b.2) with
    | none =>
      walk_at "rds"
      refine ⟨ab, _, 0, _, eab, rfl, hab.sq, atI_nat (j := 0) rfl, ?_⟩
      walk_at "rds"
      refine ⟨p, A, W, _, con', wai', eD b.2, rfl, chh, ?_, ?_⟩
      · cases g2 : gA con' (eD b.2) with
        | none => rfl
        | some y => rw [(iff _ _).mp g2] at g; cases g
      · refine ⟨_, rfl, ?_⟩
        refine ifF rfl ?_
        exact ⟨con', wai', _, _, _, _, _, _, rfl, bt2, chh, B'⟩
    | some b2 =>
      obtain rfl : b2 = b := by
        rcases hE.src _ _ g with ⟨z, _⟩ | ⟨m, z⟩
        · have := (bk.pl b mb).2.1; omega
        · exact bs_inj bk (mem' _ m) mb z.symm
      obtain ⟨ls, pth, lls, als⟩ := path_ex bk' hE g
      have eu := eup b2 mb
      have okls : ∀ x ∈ ls, OkB K Hh x := fun x m => chh.ca.ok _ (gA_some ((iff _ _).mpr (als x m)))
      walk_at "rds"
      refine ⟨p, dxh, _, rfl, gph, rfl, ?_⟩
      walk_at "rds"
      refine ⟨ab, _, 0, _, eab, rfl, hab.sq, atI_nat (j := 0) rfl, ?_⟩
      walk_at "rds"
      refine ⟨p, A, W, _, con', wai', re, eD b2.2, rfl, chh, rfl, .inr ⟨ls, by rw [(iff _ _).mpr g]; exact fun z => (nomatch z), pth.map fun k y z => (iff k y).mpr z, by omega, fun Hi l1 s21 fl1 el1 => ?_⟩⟩
      walk_at "rds"
      refine ⟨X, E, (rv, rootD re rn rh), b2, re, bs.take (i + 1), ls, rfl, (okrc.on s20).on s21, rfl, s21 _ _ eXh, fun x m => ((okX x m).on s19).on s21, hE, g, pth, by omega, fun Hj l3 s22 fl3 el3 => ?_⟩
      have s23 := s21.trans s22
      have okl2 : ∀ x ∈ ls.reverse, OkB K Hj x := fun x m => (okls x (List.mem_reverse.mp m)).on s23
      have shl := shpL (Ly.mono (ly_lst (k := 6) (ds := ls.reverse.map (·.2)) fun d m => by obtain ⟨x, mx, rfl⟩ := List.mem_map.mp m; exact (okl2 x mx).ly) (by decide))
      refine ⟨_, _, .lst (.of (s22 _ _ el1)) (DtAll.dp _ _ (OkB.all okl2)), .lst (.of el3) (DtAll.dp _ _ (OkB.all okl2)), shl.1, shl.1, ?_⟩
      rw [shl.2]
      refine ⟨_, rfl, ?_⟩
      refine ifF rfl ?_
      exact ⟨con', wai', _, _, _, _, _, _, rfl, bt2.trans (Same.but s23), chh.on s23, B'⟩
  · obtain ⟨con, wai, told, y4, y5, y6, y7, y8, rfl, bt, ch, B⟩ := hp
    rw [Int.toNat_natCast, List.take_of_length_le (Nat.le_refl _)] at B
    have hE := expOk (rt := (rv, rootD re rn rh)) (re := re) rfl bk
    have hca := hc.tp (tpk bt)
    walk_at "rds"
    refine ⟨c, _, 0, _, ec, rfl, hca.sq, atI_nat (j := 0) rfl, ?_⟩
    walk_at "rds"
    refine ⟨p, A, W, _, con, wai, re + 1000, rfl, ch, ?_, q _⟩
    cases g : gA con (re + 1000) with
    | none => rfl
    | some y =>
      rcases hE.src _ _ (B.I.ce _ _ g) with ⟨z, _⟩ | ⟨m, z⟩
      · omega
      · have := eup y m
        omega
end

theorem fin {C_Chain : Addr} {C_BadBlock : Addr} {P : Program} {w : World} {K : PySem.W.Frag} {mg : Str → Option Value} {fa : Addr} (hfa : mg "law" = some (.ref fa)) (T : Txt K mg C_Chain C_BadBlock) :
    ∃ fd : FuncData, (∀ (s : Shared) (u : Value), BindsTo s fd ⟨[u], []⟩ [("script", u)]) ∧ ∀ base : Heap, K.In base → base.Ns mainGlobals mg → FnOk P w K mg base L2.CX0 8 fa fd ["script"] (spLaw K) := by
  obtain ⟨f, fd, F, hm, b⟩ := T.d_law.ex
  cases hfa.symm.trans hm
  refine ⟨fd, fun s u => ?_, fun base _ _ => ok_law F T⟩
  obtain ⟨oc, od, kV, doc, pm, an, cdv, ct, osl, rfl, l, _⟩ := F.ex
  exact .of_eq rfl

theorem all_mk {K : PySem.W.Frag} {h : Heap} {mg : Str → Option Value} (X : K.In h) (G : h.Ns mainGlobals mg)
    {f_has_parent : Addr} {od_has_parent an_has_parent : Option Addr} {sl_has_parent : Array (Option Value)} {oc_has_parent kV_has_parent dc_has_parent pm_has_parent cd_has_parent ct_has_parent : Value}
    {f_place : Addr} {od_place an_place : Option Addr} {sl_place : Array (Option Value)} {oc_place kV_place dc_place pm_place cd_place ct_place : Value}
    {f_highest : Addr} {od_highest an_highest : Option Addr} {sl_highest : Array (Option Value)} {oc_highest kV_highest dc_highest pm_highest cd_highest ct_highest : Value}
    {f__law_cell : Addr} {od__law_cell an__law_cell : Option Addr} {sl__law_cell : Array (Option Value)} {oc__law_cell kV__law_cell dc__law_cell pm__law_cell cd__law_cell ct__law_cell : Value}
    {f__law_draws : Addr} {od__law_draws an__law_draws : Option Addr} {sl__law_draws : Array (Option Value)} {oc__law_draws kV__law_draws dc__law_draws pm__law_draws cd__law_draws ct__law_draws : Value}
    {f__law_root : Addr} {od__law_root an__law_root : Option Addr} {sl__law_root : Array (Option Value)} {oc__law_root kV__law_root dc__law_root pm__law_root cd__law_root ct__law_root : Value}
    {f__law_blocks : Addr} {od__law_blocks an__law_blocks : Option Addr} {sl__law_blocks : Array (Option Value)} {oc__law_blocks kV__law_blocks dc__law_blocks pm__law_blocks cd__law_blocks ct__law_blocks : Value}
    {f__law_connected : Addr} {od__law_connected an__law_connected : Option Addr} {sl__law_connected : Array (Option Value)} {oc__law_connected kV__law_connected dc__law_connected pm__law_connected cd__law_connected ct__law_connected : Value}
    {f__law_path : Addr} {od__law_path an__law_path : Option Addr} {sl__law_path : Array (Option Value)} {oc__law_path kV__law_path dc__law_path pm__law_path cd__law_path ct__law_path : Value}
    {f__law_refused : Addr} {od__law_refused an__law_refused : Option Addr} {sl__law_refused : Array (Option Value)} {oc__law_refused kV__law_refused dc__law_refused pm__law_refused cd__law_refused ct__law_refused : Value}
    {f_law : Addr} {od_law an_law : Option Addr} {sl_law : Array (Option Value)} {oc_law kV_law dc_law pm_law cd_law ct_law : Value}
    {C_Chain : Addr}
    {f_Chain____init__ : Addr} {od_Chain____init__ an_Chain____init__ : Option Addr} {sl_Chain____init__ : Array (Option Value)} {oc_Chain____init__ kV_Chain____init__ dc_Chain____init__ pm_Chain____init__ cd_Chain____init__ ct_Chain____init__ : Value}
    {f_Chain__insert : Addr} {od_Chain__insert an_Chain__insert : Option Addr} {sl_Chain__insert : Array (Option Value)} {oc_Chain__insert kV_Chain__insert dc_Chain__insert pm_Chain__insert cd_Chain__insert ct_Chain__insert : Value}
    {f_Chain__tip : Addr} {od_Chain__tip an_Chain__tip : Option Addr} {sl_Chain__tip : Array (Option Value)} {oc_Chain__tip kV_Chain__tip dc_Chain__tip pm_Chain__tip cd_Chain__tip ct_Chain__tip : Value}
    {f_Chain__path : Addr} {od_Chain__path an_Chain__path : Option Addr} {sl_Chain__path : Array (Option Value)} {oc_Chain__path kV_Chain__path dc_Chain__path pm_Chain__path cd_Chain__path ct_Chain__path : Value}
    {f_Chain___connect_waiting : Addr} {od_Chain___connect_waiting an_Chain___connect_waiting : Option Addr} {sl_Chain___connect_waiting : Array (Option Value)} {oc_Chain___connect_waiting kV_Chain___connect_waiting dc_Chain___connect_waiting pm_Chain___connect_waiting cd_Chain___connect_waiting ct_Chain___connect_waiting : Value}
    {C_BadBlock : Addr}
    (a_has_parent : PySem.W.nsIn K mainGlobals "has_parent" = some (some (.ref f_has_parent)))
    (l_has_parent : K.lookup f_has_parent = some ⟨oc_has_parent, od_has_parent, .func (PySem.W.fnOf "has_parent" "has_parent" (defArgs s_has_parent) (defBody s_has_parent) (defScope s_has_parent) .none kV_has_parent dc_has_parent pm_has_parent an_has_parent cd_has_parent ct_has_parent), sl_has_parent⟩)
    (e_has_parent : PySem.W.codeIn K cd_has_parent "has_parent" = true)
    (k_has_parent : PySem.W.keepIn K (.ref f_has_parent) = true)
    (a_place : PySem.W.nsIn K mainGlobals "place" = some (some (.ref f_place)))
    (l_place : K.lookup f_place = some ⟨oc_place, od_place, .func (PySem.W.fnOf "place" "place" (defArgs s_place) (defBody s_place) (defScope s_place) .none kV_place dc_place pm_place an_place cd_place ct_place), sl_place⟩)
    (e_place : PySem.W.codeIn K cd_place "place" = true)
    (k_place : PySem.W.keepIn K (.ref f_place) = true)
    (a_highest : PySem.W.nsIn K mainGlobals "highest" = some (some (.ref f_highest)))
    (l_highest : K.lookup f_highest = some ⟨oc_highest, od_highest, .func (PySem.W.fnOf "highest" "highest" (defArgs s_highest) (defBody s_highest) (defScope s_highest) .none kV_highest dc_highest pm_highest an_highest cd_highest ct_highest), sl_highest⟩)
    (e_highest : PySem.W.codeIn K cd_highest "highest" = true)
    (k_highest : PySem.W.keepIn K (.ref f_highest) = true)
    (a__law_cell : PySem.W.nsIn K mainGlobals "_law_cell" = some (some (.ref f__law_cell)))
    (l__law_cell : K.lookup f__law_cell = some ⟨oc__law_cell, od__law_cell, .func (PySem.W.fnOf "_law_cell" "_law_cell" (defArgs s__law_cell) (defBody s__law_cell) (defScope s__law_cell) .none kV__law_cell dc__law_cell pm__law_cell an__law_cell cd__law_cell ct__law_cell), sl__law_cell⟩)
    (e__law_cell : PySem.W.codeIn K cd__law_cell "_law_cell" = true)
    (k__law_cell : PySem.W.keepIn K (.ref f__law_cell) = true)
    (a__law_draws : PySem.W.nsIn K mainGlobals "_law_draws" = some (some (.ref f__law_draws)))
    (l__law_draws : K.lookup f__law_draws = some ⟨oc__law_draws, od__law_draws, .func (PySem.W.fnOf "_law_draws" "_law_draws" (defArgs s__law_draws) (defBody s__law_draws) (defScope s__law_draws) .none kV__law_draws dc__law_draws pm__law_draws an__law_draws cd__law_draws ct__law_draws), sl__law_draws⟩)
    (e__law_draws : PySem.W.codeIn K cd__law_draws "_law_draws" = true)
    (k__law_draws : PySem.W.keepIn K (.ref f__law_draws) = true)
    (a__law_root : PySem.W.nsIn K mainGlobals "_law_root" = some (some (.ref f__law_root)))
    (l__law_root : K.lookup f__law_root = some ⟨oc__law_root, od__law_root, .func (PySem.W.fnOf "_law_root" "_law_root" (defArgs s__law_root) (defBody s__law_root) (defScope s__law_root) .none kV__law_root dc__law_root pm__law_root an__law_root cd__law_root ct__law_root), sl__law_root⟩)
    (e__law_root : PySem.W.codeIn K cd__law_root "_law_root" = true)
    (k__law_root : PySem.W.keepIn K (.ref f__law_root) = true)
    (a__law_blocks : PySem.W.nsIn K mainGlobals "_law_blocks" = some (some (.ref f__law_blocks)))
    (l__law_blocks : K.lookup f__law_blocks = some ⟨oc__law_blocks, od__law_blocks, .func (PySem.W.fnOf "_law_blocks" "_law_blocks" (defArgs s__law_blocks) (defBody s__law_blocks) (defScope s__law_blocks) .none kV__law_blocks dc__law_blocks pm__law_blocks an__law_blocks cd__law_blocks ct__law_blocks), sl__law_blocks⟩)
    (e__law_blocks : PySem.W.codeIn K cd__law_blocks "_law_blocks" = true)
    (k__law_blocks : PySem.W.keepIn K (.ref f__law_blocks) = true)
    (a__law_connected : PySem.W.nsIn K mainGlobals "_law_connected" = some (some (.ref f__law_connected)))
    (l__law_connected : K.lookup f__law_connected = some ⟨oc__law_connected, od__law_connected, .func (PySem.W.fnOf "_law_connected" "_law_connected" (defArgs s__law_connected) (defBody s__law_connected) (defScope s__law_connected) .none kV__law_connected dc__law_connected pm__law_connected an__law_connected cd__law_connected ct__law_connected), sl__law_connected⟩)
    (e__law_connected : PySem.W.codeIn K cd__law_connected "_law_connected" = true)
    (k__law_connected : PySem.W.keepIn K (.ref f__law_connected) = true)
    (a__law_path : PySem.W.nsIn K mainGlobals "_law_path" = some (some (.ref f__law_path)))
    (l__law_path : K.lookup f__law_path = some ⟨oc__law_path, od__law_path, .func (PySem.W.fnOf "_law_path" "_law_path" (defArgs s__law_path) (defBody s__law_path) (defScope s__law_path) .none kV__law_path dc__law_path pm__law_path an__law_path cd__law_path ct__law_path), sl__law_path⟩)
    (e__law_path : PySem.W.codeIn K cd__law_path "_law_path" = true)
    (k__law_path : PySem.W.keepIn K (.ref f__law_path) = true)
    (a__law_refused : PySem.W.nsIn K mainGlobals "_law_refused" = some (some (.ref f__law_refused)))
    (l__law_refused : K.lookup f__law_refused = some ⟨oc__law_refused, od__law_refused, .func (PySem.W.fnOf "_law_refused" "_law_refused" (defArgs s__law_refused) (defBody s__law_refused) (defScope s__law_refused) .none kV__law_refused dc__law_refused pm__law_refused an__law_refused cd__law_refused ct__law_refused), sl__law_refused⟩)
    (e__law_refused : PySem.W.codeIn K cd__law_refused "_law_refused" = true)
    (k__law_refused : PySem.W.keepIn K (.ref f__law_refused) = true)
    (a_law : PySem.W.nsIn K mainGlobals "law" = some (some (.ref f_law)))
    (l_law : K.lookup f_law = some ⟨oc_law, od_law, .func (PySem.W.fnOf "law" "law" (defArgs s_law) (defBody s_law) (defScope s_law) .none kV_law dc_law pm_law an_law cd_law ct_law), sl_law⟩)
    (e_law : PySem.W.codeIn K cd_law "law" = true)
    (k_law : PySem.W.keepIn K (.ref f_law) = true)
    (ac_Chain : PySem.W.nsIn K mainGlobals "Chain" = some (some (.ref C_Chain)))
    (pg_Chain : PySem.W.plainGet K C_Chain Str.empty = true)
    (hd_Chain : PySem.W.hasDictIn K C_Chain = true)
    (po_Chain : PySem.W.plainOver K C_Chain = true)
    (sa_Chain : PySem.W.findIn K (.ref C_Chain) "__setattr__" = some (some (.builtin "object.__setattr__")))
    (mk_Chain : PySem.W.makesIn K C_Chain = true)
    (kc_Chain : PySem.W.keepIn K (.ref C_Chain) = true)
    (na_Chain_root : PySem.W.findIn K (.ref C_Chain) "root" = some none)
    (na_Chain__connected : PySem.W.findIn K (.ref C_Chain) "_connected" = some none)
    (na_Chain__waiting : PySem.W.findIn K (.ref C_Chain) "_waiting" = some none)
    (a_Chain____init__ : PySem.W.findIn K (.ref C_Chain) "__init__" = some (some (.ref f_Chain____init__)))
    (i_Chain____init__ : PySem.W.isFn K (.ref f_Chain____init__) = true)
    (l_Chain____init__ : K.lookup f_Chain____init__ = some ⟨oc_Chain____init__, od_Chain____init__, .func (PySem.W.fnOf "__init__" "Chain.__init__" (defArgs s_Chain____init__) (defBody s_Chain____init__) (defScope s_Chain____init__) .none kV_Chain____init__ dc_Chain____init__ pm_Chain____init__ an_Chain____init__ cd_Chain____init__ ct_Chain____init__), sl_Chain____init__⟩)
    (e_Chain____init__ : PySem.W.codeIn K cd_Chain____init__ "Chain.__init__" = true)
    (k_Chain____init__ : PySem.W.keepIn K (.ref f_Chain____init__) = true)
    (a_Chain__insert : PySem.W.findIn K (.ref C_Chain) "insert" = some (some (.ref f_Chain__insert)))
    (i_Chain__insert : PySem.W.isFn K (.ref f_Chain__insert) = true)
    (l_Chain__insert : K.lookup f_Chain__insert = some ⟨oc_Chain__insert, od_Chain__insert, .func (PySem.W.fnOf "insert" "Chain.insert" (defArgs s_Chain__insert) (defBody s_Chain__insert) (defScope s_Chain__insert) .none kV_Chain__insert dc_Chain__insert pm_Chain__insert an_Chain__insert cd_Chain__insert ct_Chain__insert), sl_Chain__insert⟩)
    (e_Chain__insert : PySem.W.codeIn K cd_Chain__insert "Chain.insert" = true)
    (k_Chain__insert : PySem.W.keepIn K (.ref f_Chain__insert) = true)
    (a_Chain__tip : PySem.W.findIn K (.ref C_Chain) "tip" = some (some (.ref f_Chain__tip)))
    (i_Chain__tip : PySem.W.isFn K (.ref f_Chain__tip) = true)
    (l_Chain__tip : K.lookup f_Chain__tip = some ⟨oc_Chain__tip, od_Chain__tip, .func (PySem.W.fnOf "tip" "Chain.tip" (defArgs s_Chain__tip) (defBody s_Chain__tip) (defScope s_Chain__tip) .none kV_Chain__tip dc_Chain__tip pm_Chain__tip an_Chain__tip cd_Chain__tip ct_Chain__tip), sl_Chain__tip⟩)
    (e_Chain__tip : PySem.W.codeIn K cd_Chain__tip "Chain.tip" = true)
    (k_Chain__tip : PySem.W.keepIn K (.ref f_Chain__tip) = true)
    (a_Chain__path : PySem.W.findIn K (.ref C_Chain) "path" = some (some (.ref f_Chain__path)))
    (i_Chain__path : PySem.W.isFn K (.ref f_Chain__path) = true)
    (l_Chain__path : K.lookup f_Chain__path = some ⟨oc_Chain__path, od_Chain__path, .func (PySem.W.fnOf "path" "Chain.path" (defArgs s_Chain__path) (defBody s_Chain__path) (defScope s_Chain__path) .none kV_Chain__path dc_Chain__path pm_Chain__path an_Chain__path cd_Chain__path ct_Chain__path), sl_Chain__path⟩)
    (e_Chain__path : PySem.W.codeIn K cd_Chain__path "Chain.path" = true)
    (k_Chain__path : PySem.W.keepIn K (.ref f_Chain__path) = true)
    (a_Chain___connect_waiting : PySem.W.findIn K (.ref C_Chain) "_connect_waiting" = some (some (.ref f_Chain___connect_waiting)))
    (i_Chain___connect_waiting : PySem.W.isFn K (.ref f_Chain___connect_waiting) = true)
    (l_Chain___connect_waiting : K.lookup f_Chain___connect_waiting = some ⟨oc_Chain___connect_waiting, od_Chain___connect_waiting, .func (PySem.W.fnOf "_connect_waiting" "Chain._connect_waiting" (defArgs s_Chain___connect_waiting) (defBody s_Chain___connect_waiting) (defScope s_Chain___connect_waiting) .none kV_Chain___connect_waiting dc_Chain___connect_waiting pm_Chain___connect_waiting an_Chain___connect_waiting cd_Chain___connect_waiting ct_Chain___connect_waiting), sl_Chain___connect_waiting⟩)
    (e_Chain___connect_waiting : PySem.W.codeIn K cd_Chain___connect_waiting "Chain._connect_waiting" = true)
    (k_Chain___connect_waiting : PySem.W.keepIn K (.ref f_Chain___connect_waiting) = true)
    (xa_BadBlock : PySem.W.nsIn K mainGlobals "BadBlock" = some (some (.ref C_BadBlock)))
    (xe_BadBlock : PySem.W.excIn K C_BadBlock [.type "ValueError", .type "Exception", .type "BaseException", .type "object"] "ValueError.__new__" = true)
    (xk_BadBlock : PySem.W.keepIn K (.ref C_BadBlock) = true)
    (xb_BadBlock : PySem.W.subIn K (.ref C_BadBlock) (.type "BaseException") = some true)
    (xt_BadBlock : PySem.W.typeIn K (.ref C_BadBlock) = some (.type "type"))
    (xh_BadBlock : PySem.W.hasDictIn K C_BadBlock = true)
    (u_BadBlock_BadBlock : PySem.W.subIn K (.ref C_BadBlock) (.ref C_BadBlock) = some true)
    (z_abs : PySem.W.nsIn K mainGlobals "abs" = some none)
    (z_int : PySem.W.nsIn K mainGlobals "int" = some none)
    (z_len : PySem.W.nsIn K mainGlobals "len" = some none)
    (z_list : PySem.W.nsIn K mainGlobals "list" = some none)
    (z_max : PySem.W.nsIn K mainGlobals "max" = some none)
    (z_range : PySem.W.nsIn K mainGlobals "range" = some none)
    (z_sorted : PySem.W.nsIn K mainGlobals "sorted" = some none) : Txt K mg C_Chain C_BadBlock :=
  { d_has_parent := ⟨_, _, (fun_mk l_has_parent e_has_parent k_has_parent), PySem.W.mg_of X G a_has_parent, ((fun_mk (st := s_has_parent) l_has_parent e_has_parent k_has_parent).binds (ps := ["connected", "block"]) fun _ _ _ _ _ _ us hl => match us, hl with | [_, _], _ => rfl)⟩,
    d_place := ⟨_, _, (fun_mk l_place e_place k_place), PySem.W.mg_of X G a_place, ((fun_mk (st := s_place) l_place e_place k_place).binds (ps := ["block"]) fun _ _ _ _ _ _ us hl => match us, hl with | [_], _ => rfl)⟩,
    d_highest := ⟨_, _, (fun_mk l_highest e_highest k_highest), PySem.W.mg_of X G a_highest, ((fun_mk (st := s_highest) l_highest e_highest k_highest).binds (ps := ["blocks"]) fun _ _ _ _ _ _ us hl => match us, hl with | [_], _ => rfl)⟩,
    d__law_cell := ⟨_, _, (fun_mk l__law_cell e__law_cell k__law_cell), PySem.W.mg_of X G a__law_cell, ((fun_mk (st := s__law_cell) l__law_cell e__law_cell k__law_cell).binds (ps := ["script", "k"]) fun _ _ _ _ _ _ us hl => match us, hl with | [_, _], _ => rfl)⟩,
    d__law_draws := ⟨_, _, (fun_mk l__law_draws e__law_draws k__law_draws), PySem.W.mg_of X G a__law_draws, ((fun_mk (st := s__law_draws) l__law_draws e__law_draws k__law_draws).binds (ps := ["script", "start", "most"]) fun _ _ _ _ _ _ us hl => match us, hl with | [_, _, _], _ => rfl)⟩,
    d__law_root := ⟨_, _, (fun_mk l__law_root e__law_root k__law_root), PySem.W.mg_of X G a__law_root, ((fun_mk (st := s__law_root) l__law_root e__law_root k__law_root).binds (ps := ["cell"]) fun _ _ _ _ _ _ us hl => match us, hl with | [_], _ => rfl)⟩,
    d__law_blocks := ⟨_, _, (fun_mk l__law_blocks e__law_blocks k__law_blocks), PySem.W.mg_of X G a__law_blocks, ((fun_mk (st := s__law_blocks) l__law_blocks e__law_blocks k__law_blocks).binds (ps := ["root", "draws"]) fun _ _ _ _ _ _ us hl => match us, hl with | [_, _], _ => rfl)⟩,
    d__law_connected := ⟨_, _, (fun_mk l__law_connected e__law_connected k__law_connected), PySem.W.mg_of X G a__law_connected, ((fun_mk (st := s__law_connected) l__law_connected e__law_connected k__law_connected).binds (ps := ["root", "blocks"]) fun _ _ _ _ _ _ us hl => match us, hl with | [_, _], _ => rfl)⟩,
    d__law_path := ⟨_, _, (fun_mk l__law_path e__law_path k__law_path), PySem.W.mg_of X G a__law_path, ((fun_mk (st := s__law_path) l__law_path e__law_path k__law_path).binds (ps := ["found", "root", "block"]) fun _ _ _ _ _ _ us hl => match us, hl with | [_, _, _], _ => rfl)⟩,
    d__law_refused := ⟨_, _, (fun_mk l__law_refused e__law_refused k__law_refused), PySem.W.mg_of X G a__law_refused, ((fun_mk (st := s__law_refused) l__law_refused e__law_refused k__law_refused).binds (ps := ["chain", "epoch"]) fun _ _ _ _ _ _ us hl => match us, hl with | [_, _], _ => rfl)⟩,
    d_law := ⟨_, _, (fun_mk l_law e_law k_law), PySem.W.mg_of X G a_law, ((fun_mk (st := s_law) l_law e_law k_law).binds (ps := ["script"]) fun _ _ _ _ _ _ us hl => match us, hl with | [_], _ => rfl)⟩,
    cl_Chain := ⟨pg_Chain, hd_Chain, po_Chain, sa_Chain⟩,
    g_Chain := PySem.W.mg_of X G ac_Chain,
    na_Chain_root := na_Chain_root,
    na_Chain__connected := na_Chain__connected,
    na_Chain__waiting := na_Chain__waiting,
    mk_Chain := ⟨_, _, ⟨mk_Chain, a_Chain____init__, i_Chain____init__, kc_Chain⟩, (fun_mk l_Chain____init__ e_Chain____init__ k_Chain____init__), ((fun_mk (st := s_Chain____init__) l_Chain____init__ e_Chain____init__ k_Chain____init__).binds (ps := ["self", "root"]) fun _ _ _ _ _ _ us hl => match us, hl with | [_, _], _ => rfl)⟩,
    me_Chain__insert := ⟨_, _, ⟨a_Chain__insert, i_Chain__insert, k_Chain__insert⟩, (fun_mk l_Chain__insert e_Chain__insert k_Chain__insert), ((fun_mk (st := s_Chain__insert) l_Chain__insert e_Chain__insert k_Chain__insert).binds (ps := ["self", "block"]) fun _ _ _ _ _ _ us hl => match us, hl with | [_, _], _ => rfl)⟩,
    me_Chain__tip := ⟨_, _, ⟨a_Chain__tip, i_Chain__tip, k_Chain__tip⟩, (fun_mk l_Chain__tip e_Chain__tip k_Chain__tip), ((fun_mk (st := s_Chain__tip) l_Chain__tip e_Chain__tip k_Chain__tip).binds (ps := ["self"]) fun _ _ _ _ _ _ us hl => match us, hl with | [_], _ => rfl)⟩,
    me_Chain__path := ⟨_, _, ⟨a_Chain__path, i_Chain__path, k_Chain__path⟩, (fun_mk l_Chain__path e_Chain__path k_Chain__path), ((fun_mk (st := s_Chain__path) l_Chain__path e_Chain__path k_Chain__path).binds (ps := ["self", "epoch"]) fun _ _ _ _ _ _ us hl => match us, hl with | [_, _], _ => rfl)⟩,
    me_Chain___connect_waiting := ⟨_, _, ⟨a_Chain___connect_waiting, i_Chain___connect_waiting, k_Chain___connect_waiting⟩, (fun_mk l_Chain___connect_waiting e_Chain___connect_waiting k_Chain___connect_waiting), ((fun_mk (st := s_Chain___connect_waiting) l_Chain___connect_waiting e_Chain___connect_waiting k_Chain___connect_waiting).binds (ps := ["self"]) fun _ _ _ _ _ _ us hl => match us, hl with | [_], _ => rfl)⟩,
    x_BadBlock := ⟨xe_BadBlock, PySem.W.mg_of X G xa_BadBlock, xk_BadBlock, xb_BadBlock, xt_BadBlock, xh_BadBlock⟩,
    u_BadBlock_BadBlock := u_BadBlock_BadBlock,
    z_abs := PySem.W.mg_none_of X G z_abs,
    z_int := PySem.W.mg_none_of X G z_int,
    z_len := PySem.W.mg_none_of X G z_len,
    z_list := PySem.W.mg_none_of X G z_list,
    z_max := PySem.W.mg_none_of X G z_max,
    z_range := PySem.W.mg_none_of X G z_range,
    z_sorted := PySem.W.mg_none_of X G z_sorted }
end Law
open PySem PySem.W PyProof.Rows
set_option maxRecDepth 100000 in
set_option maxHeartbeats 0 in
theorem PySem.Challenge.cw_oathledger_k31_chain_tip_and_path_holds : PySem.Challenge.rw_oathledger_k31_chain_tip_and_path.Holds := by
  w_on; o_law; k_head; (case hw => w_witness2)
  k_fill
  refine L2.walk_of (l := PySem.Challenge.rw_oathledger_k31_chain_tip_and_path) (n := 63) (k := 8) (x := "script") (CX := fun _ => L2.CX0) (sp := fun w => Law.spLaw _) rfl (by decide) rfl ⟨rfl, by decide, by decide⟩ (fun w h Y => PySem.W.kIn_of Y) ?F (fun _ _ a ns hl _ hS => ⟨a, ns, rfl, hS, hl, fun _ => rfl⟩) (fun _ _ _ _ _ h => h)
  case F =>
    intro w mg fa h KX G hmg
    refine' Law.fin hmg (Law.all_mk KX G ?a_has_parent ?l_has_parent ?e_has_parent ?k_has_parent ?a_place ?l_place ?e_place ?k_place ?a_highest ?l_highest ?e_highest ?k_highest ?a__law_cell ?l__law_cell ?e__law_cell ?k__law_cell ?a__law_draws ?l__law_draws ?e__law_draws ?k__law_draws ?a__law_root ?l__law_root ?e__law_root ?k__law_root ?a__law_blocks ?l__law_blocks ?e__law_blocks ?k__law_blocks ?a__law_connected ?l__law_connected ?e__law_connected ?k__law_connected ?a__law_path ?l__law_path ?e__law_path ?k__law_path ?a__law_refused ?l__law_refused ?e__law_refused ?k__law_refused ?a_law ?l_law ?e_law ?k_law ?ac_Chain ?pg_Chain ?hd_Chain ?po_Chain ?sa_Chain ?mk_Chain ?kc_Chain ?na_Chain_root ?na_Chain__connected ?na_Chain__waiting ?a_Chain____init__ ?i_Chain____init__ ?l_Chain____init__ ?e_Chain____init__ ?k_Chain____init__ ?a_Chain__insert ?i_Chain__insert ?l_Chain__insert ?e_Chain__insert ?k_Chain__insert ?a_Chain__tip ?i_Chain__tip ?l_Chain__tip ?e_Chain__tip ?k_Chain__tip ?a_Chain__path ?i_Chain__path ?l_Chain__path ?e_Chain__path ?k_Chain__path ?a_Chain___connect_waiting ?i_Chain___connect_waiting ?l_Chain___connect_waiting ?e_Chain___connect_waiting ?k_Chain___connect_waiting ?xa_BadBlock ?xe_BadBlock ?xk_BadBlock ?xb_BadBlock ?xt_BadBlock ?xh_BadBlock ?u_BadBlock_BadBlock ?z_abs ?z_int ?z_len ?z_list ?z_max ?z_range ?z_sorted)
    (case a_has_parent => k_is)
    (case l_has_parent => k_is)
    (case e_has_parent => k_is)
    (case k_has_parent => k_is)
    (case a_place => k_is)
    (case l_place => k_is)
    (case e_place => k_is)
    (case k_place => k_is)
    (case a_highest => k_is)
    (case l_highest => k_is)
    (case e_highest => k_is)
    (case k_highest => k_is)
    (case a__law_cell => k_is)
    (case l__law_cell => k_is)
    (case e__law_cell => k_is)
    (case k__law_cell => k_is)
    (case a__law_draws => k_is)
    (case l__law_draws => k_is)
    (case e__law_draws => k_is)
    (case k__law_draws => k_is)
    (case a__law_root => k_is)
    (case l__law_root => k_is)
    (case e__law_root => k_is)
    (case k__law_root => k_is)
    (case a__law_blocks => k_is)
    (case l__law_blocks => k_is)
    (case e__law_blocks => k_is)
    (case k__law_blocks => k_is)
    (case a__law_connected => k_is)
    (case l__law_connected => k_is)
    (case e__law_connected => k_is)
    (case k__law_connected => k_is)
    (case a__law_path => k_is)
    (case l__law_path => k_is)
    (case e__law_path => k_is)
    (case k__law_path => k_is)
    (case a__law_refused => k_is)
    (case l__law_refused => k_is)
    (case e__law_refused => k_is)
    (case k__law_refused => k_is)
    (case a_law => k_is)
    (case l_law => k_is)
    (case e_law => k_is)
    (case k_law => k_is)
    (case ac_Chain => k_is)
    (case pg_Chain => k_is)
    (case hd_Chain => k_is)
    (case po_Chain => k_is)
    (case sa_Chain => k_is)
    (case mk_Chain => k_is)
    (case kc_Chain => k_is)
    (case na_Chain_root => k_is)
    (case na_Chain__connected => k_is)
    (case na_Chain__waiting => k_is)
    (case a_Chain____init__ => k_is)
    (case i_Chain____init__ => k_is)
    (case l_Chain____init__ => k_is)
    (case e_Chain____init__ => k_is)
    (case k_Chain____init__ => k_is)
    (case a_Chain__insert => k_is)
    (case i_Chain__insert => k_is)
    (case l_Chain__insert => k_is)
    (case e_Chain__insert => k_is)
    (case k_Chain__insert => k_is)
    (case a_Chain__tip => k_is)
    (case i_Chain__tip => k_is)
    (case l_Chain__tip => k_is)
    (case e_Chain__tip => k_is)
    (case k_Chain__tip => k_is)
    (case a_Chain__path => k_is)
    (case i_Chain__path => k_is)
    (case l_Chain__path => k_is)
    (case e_Chain__path => k_is)
    (case k_Chain__path => k_is)
    (case a_Chain___connect_waiting => k_is)
    (case i_Chain___connect_waiting => k_is)
    (case l_Chain___connect_waiting => k_is)
    (case e_Chain___connect_waiting => k_is)
    (case k_Chain___connect_waiting => k_is)
    (case xa_BadBlock => k_is)
    (case xe_BadBlock => first | k_is | k_exc)
    (case xk_BadBlock => k_is)
    (case xb_BadBlock => k_is)
    (case xt_BadBlock => k_is)
    (case xh_BadBlock => k_is)
    (case u_BadBlock_BadBlock => k_is)
    (case z_abs => k_is)
    (case z_int => k_is)
    (case z_len => k_is)
    (case z_list => k_is)
    (case z_max => k_is)
    (case z_range => k_is)
    (case z_sorted => k_is)

