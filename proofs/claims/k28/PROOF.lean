import PyProof.Rows.All
import Wide.All
import OpenK.AllK
import Wide.FinOn
import HandS.ForMost
import HandS.Walk
import HandS.Flow
import HandS.Codes
import HandS.IsInst
import HandS.Conv
import HandS.StrMore
import PyProof.MeetsSeq2
import PyProof.DictTable
import HandS.Wide
import HandS.TupAny
import HandS.More
import HandS.Dict
import HandS.ForExc
import HandS.ExcIs
import HandS.ExcField
import HandS.DeepEq
import HandS.TupLe
import HandS.Steps
import HandS.ExcInit
import HandS.SortRule
import HandS.RaiseMore
import HandS.Zip
import HandS.DictSubView
import HandS.Deep
import HandS.Sort
import HandS.SetKeys
import HandS.Strs
import HandS.SetFor
import HandS.DictComp
import PySem.Challenge.RW_oathledger_k28_whole_one_block_an_epoch
set_option Elab.async false
set_option linter.all false
set_option maxRecDepth 100000
set_option maxHeartbeats 4000000
namespace Law
open PySem PySem.Spec PyProof.Rows L2
open C8 (Cal Met Mak pe_c pe_mk pe_mt pe_mt0 pe_gc pss_cut tCut)
/-! ### a def of the top, by its name -/
structure DefOk (K : PySem.W.Frag) (mg : Str → Option Value) (x : Str) (st : Stmt) (ps : List Str) : Prop where
  ex : ∃ (f : Addr) (fd : FuncData), L2.Fun K x x st f fd ∧ mg x = some (.ref f) ∧ Binds K fd ps []
section
variable {P : Program} {w : World} {K : PySem.W.Frag} {mg : Str → Option Value} {base : Heap}
/-- a def's promise, by its body -/
theorem cal {x : Str} {st : Stmt} {N ps : List Str} {k : Nat} {sp : Sp} (D : DefOk K mg x st ps) (S : FnScope N ps (defScope st)) (len : ∀ vs H Q E, sp vs H Q E → vs.length = ps.length)
    (hbody : ∀ (f : Addr) (cdv : Value) (A : Around) (outer : List Env) (s : Shared) (H : Hp) (vs : List V) (Q : VK) (E : XK), Room k (A.deeper (envOfC x (defScope st) s.heap.objs.size f cdv)) → sp vs H Q E →
      ∃ t, PSs (cxOf L2.CX0 P w K mg base N x (defScope st) f cdv A outer s H E).nox (defBody st) t ∧ t { nx := fun _ H' => Q .non H', rt := Q } (start N vs) H) : Cal P w K mg base (k + 1) x sp [] := by
  obtain ⟨f, fd, F, hm, b⟩ := D.ex
  exact ⟨f, fd, ps, [], F.ok S len (fun cdv A outer s H vs Q E hr h => hbody f cdv A outer s H vs Q E hr h), hm, F.kp, b, .nil⟩
/-- a call without arguments -/
theorem pe_c0 {X : Cx} {k j : Nat} {x : Str} {sp : Sp} {dvs : List V} {p pos : Pos} (c : Cal X.prog X.w X.K X.mg X.base k x sp dvs) (hr : Room j X.A) (hk : k ≤ j) (hg : Gl X x)
    (hdb : (x == ("__debug__" : Str)) = false := by decide) : PE X (.Call (.Name x p) [] [] pos) (tCall sp dvs L2.E0 tNil) := by
  obtain ⟨f, fd, ps, ds, F, hm, kp, b, d⟩ := c.ex
  exact pe_call0 F (hr.mono hk) hg hm kp b d pass0 hdb
end
/-! ### small things -/
theorem same_upd {H : Hp} {p : Addr} {o : HO} (h : H p = none) : Same H (upd H p o) := fun b x e => by
  rw [upd_ne (ne_of_none e h)]
  exact e
theorem same_mut {H H' : Hp} {p : Addr} {o : HO} (s : Same H H') (h : H p = none) : Same H (upd H' p o) := fun b x e => by
  rw [upd_ne (ne_of_none e h)]
  exact s b x e
theorem sz1000 {n : Nat} (h : n ≤ 100000) : n ≤ sizeLine := Nat.le_trans h (by decide)
theorem sz1000' {n : Nat} (h : n < 100000) : n < sizeLine := Nat.lt_of_lt_of_le h (by decide)
theorem sz1000'' {n : Nat} (h : n ≤ 16777216) : n ≤ sizeLine := by rw [sizeLine_eq]; exact h
theorem sq {K : PySem.W.Frag} {H : Hp} {a : Addr} {xs : List V} (h : H a = some (.lst xs)) : SqL K H a xs := .inl (.inl h)
def spLaw (K : PySem.W.Frag) : Sp := fun vs H Q _ => ∃ (a : Addr) (ns : List Int), vs = [.ref a] ∧ SqL K H a (ns.map V.int) ∧ ns.length ≤ 63 ∧ ∀ H', Q (.bl true) H'
/-! ### the reading, step by step -/
local macro_rules | `(tactic| walk_at "sd") => `(tactic| first
  | omega
  | decide
  | assumption
  | (show _ ∨ _; exact Or.inl ⟨by omega, by omega⟩)
  | (show _ ∨ _; exact Or.inr ⟨by omega, by omega⟩)
  | (show _ ∧ _; exact ⟨by omega, by omega⟩)
  | (show _ ∧ _; exact ⟨by decide, by decide⟩)
  | exact sz1000 (by omega)
  | exact sz1000' (by omega))
local macro_rules | `(tactic| walk_at "sz") => `(tactic| first
  | exact sz1000 (Nat.le_of_ble_eq_true rfl)
  | exact sz1000 (by omega)
  | exact sz1000'' (by omega)
  | assumption)
/-- one step of a reading: a slot, an operator upon numbers, a call upon values -/
local macro_rules | `(tactic| walk_at "rd") => `(tactic| first
  | refine ⟨_, (rfl : (_ : List (Option V))[_]? = some (some _)), ?_⟩
  | refine ⟨_, _, (rfl : (_ : V) = _), (rfl : (_ : V) = _), (by walk_at "sd" : (_ : Prop)), ?_⟩
  | refine ⟨_, _, (rfl : (_ : V) = _), (rfl : (_ : V) = _), ?_⟩
  | refine ⟨_, (rfl : (_ : List V) = _), (by walk_at "sd" : (_ : Prop)), (by walk_at "sd" : (_ : Prop)), ?_⟩
  | refine ⟨_, (rfl : (_ : List V) = _), ?_⟩
  | refine ⟨_, (rfl : (_ : V) = _), ?_⟩
  | refine .inl ⟨_, (rfl : (_ : List V) = _), ?_⟩
  | refine ⟨⟨_, (rfl : (_ : V) = _)⟩, ?_⟩
  | refine ⟨(rfl : scal _ _ = true), ?_⟩
  | refine ⟨(rfl : V.non = V.non), ?_⟩
  | refine ⟨(by walk_at "sz" : (_ ≤ sizeLine)), ?_⟩)
local macro_rules | `(tactic| walk_at "rds") => `(tactic| repeat walk_at "rd")
theorem tyes {σ : L2.St} {H : Hp} {A B : Hp → Prop} (h : A H) : tYes σ H (fun b H3 => if b = true then A H3 else B H3) := by
  show (if true = true then A H else B H)
  rw [if_pos rfl]
  exact h
theorem sum_ones {ys : List Str} (h : ∀ y ∈ ys, y.length = 1) : (ys.map (fun x => x.length)).sum = ys.length := by
  induction ys with
  | nil => rfl
  | cons y r ih =>
    rw [List.map_cons, List.sum_cons, ih (fun z hz => h z (List.mem_cons_of_mem _ hz)), h y List.mem_cons_self, List.length_cons]
    omega
theorem chr_at {z : Str} {i : Int} (h0 : 0 ≤ i) (h1 : i < z.length) : ∃ c, atI z.cps.toList i = some c := by
  obtain ⟨j, rfl⟩ := Int.eq_ofNat_of_zero_le h0
  have hj : j < z.cps.toList.length := by
    rw [Array.length_toList]
    exact Int.ofNat_lt.mp h1
  exact ⟨z.cps.toList[j], atI_nat (List.getElem?_eq_getElem hj)⟩
/-- what an append to a tracked new list leaves -/
theorem lst_app {α : Type} {H : Hp} {D : Addr} {f : α → V} {ys : List α} {y : α} : upd H D (.lst (ys.map f ++ [f y])) D = some (.lst ((ys ++ [y]).map f)) := by
  rw [upd_same, List.map_append]
  rfl
theorem rg40 {n : Nat} (h : n ≤ 100000) : RgC 0 n 40 ((n + 39) / 40) := by
  have e : Builtin.Range.rangeSize 0 (n : Int) 40 = (((n + 39) / 40 : Nat) : Int) := by
    rw [rangeSize_pos (by decide) (by omega)]
    omega
  refine ⟨by decide, by decide, ?_, e⟩
  unfold Builtin.Range.small
  rw [e]
  unfold Builtin.Range.rangeFitsLong
  simp
  omega
theorem isi {K : PySem.W.Frag} {H : Hp} {x : V} {T1 T2 : String} {b : Bool} {Q : VK} (ty : TyX K H x (.type T1)) (e : kitB T1 T2 = some b) (q : Q (.bl b) H) : rIsi K [x, .ty T2] H Q :=
  ⟨x, .ty T2, _, _, b, rfl, .ty _, ty, kit_ty e, q⟩
theorem ifT {c : Bool} {A B : Prop} (hc : c = true) (h : A) : if c = true then A else B := by
  rw [if_pos hc]
  exact h
theorem ifF {c : Bool} {A B : Prop} (hc : c = false) (h : B) : if c = true then A else B := by
  rw [if_neg (by rw [hc]; decide)]
  exact h
local macro_rules | `(tactic| walk_at "isk") => `(tactic| first
  | exact .base (.int _) | exact .base (.str _) | exact .base (.bl _) | exact .base .non
  | exact .base (.lst (by assumption)) | exact .base (.tup (by assumption)) | exact .base (.dK (by assumption)))
/-- isinstance(x, T) with a built-in T; the object's fact stands in the context -/
local macro_rules | `(tactic| walk_at "isi") => `(tactic| first
  | refine ⟨_, .ty _, _, _, true, (rfl : (_ : List V) = _), .ty _, (by walk_at "isk"), kit_ty (by decide +kernel), ?_⟩
  | refine ⟨_, .ty _, _, _, false, (rfl : (_ : List V) = _), .ty _, (by walk_at "isk"), kit_ty (by decide +kernel), ?_⟩)
/-! ### classes of the top -/
structure MethOk (K : PySem.W.Frag) (C : Addr) (m qual : Str) (st : Stmt) (ps : List Str) : Prop where
  ex : ∃ (f : Addr) (fd : FuncData), Meth K C m f ∧ L2.Fun K m qual st f fd ∧ Binds K fd ps []
structure MakOk (K : PySem.W.Frag) (C : Addr) (qual : Str) (st : Stmt) (ps : List Str) : Prop where
  ex : ∃ (f : Addr) (fd : FuncData), Mk K C f ∧ L2.Fun K "__init__" qual st f fd ∧ Binds K fd ps []
section
variable {P : Program} {w : World} {K : PySem.W.Frag} {mg : Str → Option Value} {base : Heap}
theorem met {C : Addr} {m qual : Str} {st : Stmt} {N ps : List Str} {k : Nat} {sp : Sp} (c : Cls K C) (D : MethOk K C m qual st ps) (S : FnScope N ps (defScope st)) (len : ∀ vs H Q E, sp vs H Q E → vs.length = ps.length)
    (hbody : ∀ (f : Addr) (cdv : Value) (A : Around) (outer : List Env) (s : Shared) (H : Hp) (vs : List V) (Q : VK) (E : XK), Room k (A.deeper (envOfC qual (defScope st) s.heap.objs.size f cdv)) → sp vs H Q E →
      ∃ t, PSs (cxOf L2.CX0 P w K mg base N qual (defScope st) f cdv A outer s H E).nox (defBody st) t ∧ t { nx := fun _ H' => Q .non H', rt := Q } (start N vs) H) : Met P w K mg base (k + 1) C m sp [] := by
  obtain ⟨f, fd, M, F, b⟩ := D.ex
  exact ⟨f, fd, ps, [], c, M, F.ok S len (fun cdv A outer s H vs Q E hr h => hbody f cdv A outer s H vs Q E hr h), b, .nil⟩
theorem mak {C : Addr} {x qual : Str} {st : Stmt} {N ps : List Str} {k : Nat} {sp : Sp} (hm : mg x = some (.ref C)) (D : MakOk K C qual st ps) (S : FnScope N ps (defScope st)) (len : ∀ vs H Q E, sp vs H Q E → vs.length = ps.length)
    (hbody : ∀ (f : Addr) (cdv : Value) (A : Around) (outer : List Env) (s : Shared) (H : Hp) (vs : List V) (Q : VK) (E : XK), Room k (A.deeper (envOfC qual (defScope st) s.heap.objs.size f cdv)) → sp vs H Q E →
      ∃ t, PSs (cxOf L2.CX0 P w K mg base N qual (defScope st) f cdv A outer s H E).nox (defBody st) t ∧ t { nx := fun _ H' => Q .non H', rt := Q } (start N vs) H) : Mak P w K mg base (k + 1) x C sp [] := by
  obtain ⟨f, fd, M, F, b⟩ := D.ex
  exact ⟨f, fd, ps, [], M, F.ok S len (fun cdv A outer s H vs Q E hr h => hbody f cdv A outer s H vs Q E hr h), hm, b, .nil⟩
end
/-- a tuple of the top, in the written part -/
def KTup (K : PySem.W.Frag) (a : Addr) (xs : List V) : Prop := ∃ o its n, K.lookup a = some o ∧ o.cls = Value.type "tuple" ∧ o.data = Data.seq its n ∧ its.size ≤ sizeLine ∧ Vals xs its.toList
theorem pe_mk0 {X : Cx} {k j : Nat} {x : Str} {C : Addr} {sp : Sp} {dvs : List V} {p pos : Pos} (c : Mak X.prog X.w X.K X.mg X.base k x C sp dvs) (hr : Room j X.A) (hk : k + 1 ≤ j) (hg : Gl X x)
    (hdb : (x == ("__debug__" : Str)) = false := by decide) : PE X (.Call (.Name x p) [] [] pos) (tMake C sp dvs L2.E0 tNil) := by
  obtain ⟨f, fd, ps, ds, M, F, hm, b, d⟩ := c.ex
  exact pe_make0 M F (hr.mono hk) hg hm b d pass0 hdb
/-! ### rules whose written part is named K (a comprehension's context is another one) -/
section
variable {X : Cx} {K : PySem.W.Frag}
theorem kin (h : X.K = K := by rfl) : OpR X (compareOp .In) (rIn K false) := by subst h; exact op_in_seq
theorem knin (h : X.K = K := by rfl) : OpR X (compareOp .NotIn) (rIn K true) := by subst h; exact op_notIn_seq
theorem kixl (h : X.K = K := by rfl) : IxR X (rIxL K) := by subst h; exact ix_list
theorem kixt (h : X.K = K := by rfl) : IxR X (rIxT K) := by subst h; exact ix_tup
theorem ksll (h : X.K = K := by rfl) : SlR X (rSlL K) := by subst h; exact sl_list
theorem kisi (h : X.K = K := by rfl) : CallR X (.builtin "isinstance") (rIsi K) := by subst h; exact call_isi
theorem kfld {o : Expr} {f : Str} {pos : Pos} {ta : TE} (he : PE X o ta) (hb : attributeBase o f X.env (eval o X.env) = eval o X.env := by rfl) (h : X.K = K := by rfl) : PE X (.Attribute o f pos) (tFld K ta f) := by subst h; exact pe_fld he hb
def rLenK (K : PySem.W.Frag) : List V → Hp → VK → Prop := fun xs H Q => ∃ p ys, xs = [.ref p] ∧ (SqL K H p ys ∨ SqT K H p ys) ∧ Q (.int ys.length) H
theorem klen (h : X.K = K := by rfl) : CallR X (.builtin "len") (rLenK K) := by subst h; exact call_len_seq
end
theorem hu1 {k : Nat} {A : Around} (hr : Room k A) : A.units + 1 < cLine := by have := hr.units; omega
section
variable {X : Cx}
theorem kdin {d : Addr} (h : ∃ es n, KDict X.K X.w d es n) : OpR X (compareOp .In) (fun x y H Q => ∃ (z : Str) (r : Option Value), x = .str z ∧ y = .ref d ∧ PySem.W.nsIn X.K d z = some r ∧ Q (.bl r.isSome) H) := by
  obtain ⟨es, n, D⟩ := h
  exact op_in_kd D
theorem kdnin {d : Addr} (h : ∃ es n, KDict X.K X.w d es n) : OpR X (compareOp .NotIn) (fun x y H Q => ∃ (z : Str) (r : Option Value), x = .str z ∧ y = .ref d ∧ PySem.W.nsIn X.K d z = some r ∧ Q (.bl (!r.isSome)) H) := by
  obtain ⟨es, n, D⟩ := h
  exact op_notIn_kd D
end
theorem kgtup {X : Cx} {K : PySem.W.Frag} {es : List Expr} {k : Nat} {t : TGs} {n : Nat} {pos : Pos} (hc : X.calm = true) (h : PGs X es t)
    (hn : (assignEach es X.env).length = n := by rfl) (hst : (assignEach es X.env).findIdx? (·.1) = none := by rfl) (hK : X.K = K := by rfl) : PG X (.Tuple es k pos) (gTup K n t) := by subst hK; exact pg_tup hc h hn hst
theorem hu65 {A : Around} {k : Nat} (hr : Room k A) : A.units + 65 < cLine := by have := hr.un; omega
theorem keqD {X : Cx} {K : PySem.W.Frag} (hu : X.A.units + 64 < cLine) (h : X.K = K := by rfl) : OpR X (compareOp .Eq) (rEqD K) := by subst h; exact op_eqD hu
theorem kneD {X : Cx} {K : PySem.W.Frag} (hu : X.A.units + 64 < cLine) (h : X.K = K := by rfl) : OpR X (compareOp .NotEq) (rNeD K) := by subst h; exact op_neD hu

/-! ### defs that raise own exceptions -/
theorem kit_own {K : PySem.W.Frag} {B C : Addr} (h1 : PySem.W.subIn K (.ref C) (.type "BaseException") = some true) (h2 : PySem.W.typeIn K (.ref C) = some (.type "type")) (h3 : PySem.W.subIn K (.ref B) (.ref C) = some true) : PySem.W.kitOne K (.ref B) (.ref C) = some true := by
  have h0 : (PySem.W.clsIn K C).isSome = true := by
    have h1 : PySem.W.mroIn K C (.type "BaseException") = some true := h1
    unfold PySem.W.mroIn at h1
    cases e : PySem.W.clsIn K C with
    | some _ => rfl
    | none => rw [e] at h1; cases h1
  unfold PySem.W.kitOne
  split
  · rfl
  · show (if ((PySem.W.clsIn K C).isSome && PySem.W.typeIn K (.ref C) == some (.type "type")) = true then PySem.W.subIn K (.ref B) (.ref C) else none) = some true
    rw [h0, h2, h3]
    rfl
section
variable {X : Cx}
/-- C() of an own exception class without an __init__ of its own -/
theorem pmk_own0 {x : Str} {C : Addr} {bmB : List Value} {B newId initId : String} {p pos : Pos} (F : ExcBaseFacts B newId initId bmB) (q : PySem.W.excIn X.K C bmB newId = true) (gC : X.mg x = some (.ref C)) (kC : PySem.W.keepIn X.K (.ref C) = true) (r : Raises X (.ref C)) (hg : Gl X x)
    (hdb : (x == ("__debug__" : Str)) = false := by decide) : PMk X (.Call (.Name x p) [] [] pos) (fun _ H Q => Q (.ref C) none H) := by
  intro pins s σ H Q I h
  refine wpAny_Call_Name_kw (ld_glob I hg gC ?_ hdb)
  refine PySem.W.callWith_K0 I.kIn kC ?_
  show wpAny _ _ (call (.ref C) []) _ _ _
  obtain ⟨bm, N, nm, qn, bs, hdct, sn, sub, ab, col, dd, k0, k1, k2, k3, k5, mN, hC, hN, hni, T⟩ := exc_obj I.kIn q
  refine wpAny_call_exc_subT F T hC hN hni (fun h' e hm => ?_) (Nat.zero_le _)
  exact mk_of I hm r h (I.hok.gone hm.new)
end
/-- an own exception class over ValueError -/
structure ExOk (K : PySem.W.Frag) (mg : Str → Option Value) (x : Str) (C : Addr) : Prop where
  ex : PySem.W.excIn K C [.type "ValueError", .type "Exception", .type "BaseException", .type "object"] "ValueError.__new__" = true
  g : mg x = some (.ref C)
  kp : PySem.W.keepIn K (.ref C) = true
  bp : PySem.W.subIn K (.ref C) (.type "BaseException") = some true
  tp : PySem.W.typeIn K (.ref C) = some (.type "type")
  hd : PySem.W.hasDictIn K C = true
theorem ExOk.exm {K : PySem.W.Frag} {mg : Str → Option Value} {x : Str} {C : Addr} {cls : Value} {b : Bool} (e : ExOk K mg x C) (h : PySem.W.subIn K cls (.ref C) = some b) : PySem.W.exmOne K cls (.ref C) = some b := PySem.W.exm_ref e.bp e.hd e.tp h
theorem pmk_ok {X : Cx} {x : Str} {C : Addr} {p pos : Pos} (e : ExOk X.K X.mg x C) (hg : Gl X x) (hdb : (x == ("__debug__" : Str)) = false := by decide) : PMk X (.Call (.Name x p) [] [] pos) (fun _ H Q => Q (.ref C) none H) :=
  pmk_own0 PySem.F.excBase_ValueError e.ex e.g e.kp (raises_own e.bp e.tp) hg hdb
/-! the promises of such defs -/
structure CalX (P : Program) (w : World) (K : PySem.W.Frag) (mg : Str → Option Value) (base : Heap) (k : Nat) (x : Str) (sp : Sp) : Prop where
  ex : ∃ (f : Addr) (fd : FuncData) (ps : List Str), FnOk P w K mg base (L2.CX P w) k f fd ps sp ∧ mg x = some (.ref f) ∧ PySem.W.keepIn K (.ref f) = true ∧ Binds K fd ps []
structure MetX (P : Program) (w : World) (K : PySem.W.Frag) (mg : Str → Option Value) (base : Heap) (k : Nat) (C : Addr) (m : Str) (sp : Sp) : Prop where
  ex : ∃ (f : Addr) (fd : FuncData) (ps : List Str), Cls K C ∧ Meth K C m f ∧ FnOk P w K mg base (L2.CX P w) k f fd ps sp ∧ Binds K fd ps []
structure MakX (P : Program) (w : World) (K : PySem.W.Frag) (mg : Str → Option Value) (base : Heap) (k : Nat) (x : Str) (C : Addr) (sp : Sp) : Prop where
  ex : ∃ (f : Addr) (fd : FuncData) (ps : List Str), Mk K C f ∧ FnOk P w K mg base (L2.CX P w) k f fd ps sp ∧ mg x = some (.ref C) ∧ Binds K fd ps []
section
variable {P : Program} {w : World} {K : PySem.W.Frag} {mg : Str → Option Value} {base : Heap}
theorem calX {x : Str} {st : Stmt} {N ps : List Str} {k : Nat} {sp : Sp} (D : DefOk K mg x st ps) (S : FnScope N ps (defScope st)) (len : ∀ vs H Q E, sp vs H Q E → vs.length = ps.length)
    (hbody : ∀ (f : Addr) (cdv : Value) (A : Around) (outer : List Env) (s : Shared) (H : Hp) (vs : List V) (Q : VK) (E : XK), Room k (A.deeper (envOfC x (defScope st) s.heap.objs.size f cdv)) → sp vs H Q E →
      ∃ t, PSs (cxOf (L2.CX P w) P w K mg base N x (defScope st) f cdv A outer s H E) (defBody st) t ∧ t { nx := fun _ H' => Q .non H', rt := Q } (start N vs) H) : CalX P w K mg base (k + 1) x sp := by
  obtain ⟨f, fd, F, hm, b⟩ := D.ex
  exact ⟨f, fd, ps, F.okX S len (fun cdv A outer s H vs Q E hr h => hbody f cdv A outer s H vs Q E hr h), hm, F.kp, b⟩
theorem metX {C : Addr} {m qual : Str} {st : Stmt} {N ps : List Str} {k : Nat} {sp : Sp} (c : Cls K C) (D : MethOk K C m qual st ps) (S : FnScope N ps (defScope st)) (len : ∀ vs H Q E, sp vs H Q E → vs.length = ps.length)
    (hbody : ∀ (f : Addr) (cdv : Value) (A : Around) (outer : List Env) (s : Shared) (H : Hp) (vs : List V) (Q : VK) (E : XK), Room k (A.deeper (envOfC qual (defScope st) s.heap.objs.size f cdv)) → sp vs H Q E →
      ∃ t, PSs (cxOf (L2.CX P w) P w K mg base N qual (defScope st) f cdv A outer s H E) (defBody st) t ∧ t { nx := fun _ H' => Q .non H', rt := Q } (start N vs) H) : MetX P w K mg base (k + 1) C m sp := by
  obtain ⟨f, fd, M, F, b⟩ := D.ex
  exact ⟨f, fd, ps, c, M, F.okX S len (fun cdv A outer s H vs Q E hr h => hbody f cdv A outer s H vs Q E hr h), b⟩
theorem makX {C : Addr} {x qual : Str} {st : Stmt} {N ps : List Str} {k : Nat} {sp : Sp} (hm : mg x = some (.ref C)) (D : MakOk K C qual st ps) (S : FnScope N ps (defScope st)) (len : ∀ vs H Q E, sp vs H Q E → vs.length = ps.length)
    (hbody : ∀ (f : Addr) (cdv : Value) (A : Around) (outer : List Env) (s : Shared) (H : Hp) (vs : List V) (Q : VK) (E : XK), Room k (A.deeper (envOfC qual (defScope st) s.heap.objs.size f cdv)) → sp vs H Q E →
      ∃ t, PSs (cxOf (L2.CX P w) P w K mg base N qual (defScope st) f cdv A outer s H E) (defBody st) t ∧ t { nx := fun _ H' => Q .non H', rt := Q } (start N vs) H) : MakX P w K mg base (k + 1) x C sp := by
  obtain ⟨f, fd, M, F, b⟩ := D.ex
  exact ⟨f, fd, ps, M, F.okX S len (fun cdv A outer s H vs Q E hr h => hbody f cdv A outer s H vs Q E hr h), hm, b⟩
end
/-! their calls: E tells at the slots what is wished of an error -/
section
variable {X : Cx} {k j : Nat} {C : Addr} {x m : Str} {sp : Sp} {p pos apos : Pos} {e o : Expr} {es : List Expr} {ta : TE} {t : TA} {E : L2.St → XK}
theorem pe_cX (c : CalX X.prog X.w X.K X.mg X.base k x sp) (hr : Room j X.A) (hk : k ≤ j) (hg : Gl X x) (hx : ∀ σ, PassesAt (L2.CX X.prog X.w) X σ (E σ)) (ha : PA X (e :: es) t)
    (hdb : (x == ("__debug__" : Str)) = false := by decide) (he : starEach (e :: es) X.env = (false, eval e X.env) :: starEach es X.env := by rfl) (hpl : (backTo pos (starEach es X.env)).any (·.1) = false := by rfl) :
    PE X (.Call (.Name x p) (e :: es) [] pos) (tCallS sp E t) := by
  obtain ⟨f, fd, ps, F, hm, kp, b⟩ := c.ex
  exact pe_callS F (hr.mono hk) hg hm kp b hx ha hdb he hpl
/-- where nothing is raised -/
theorem pe_cXn (c : CalX X.prog X.w X.K X.mg X.base k x sp) (hr : Room j X.A) (hk : k ≤ j) (hg : Gl X x) (ha : PA X (e :: es) t)
    (hdb : (x == ("__debug__" : Str)) = false := by decide) (he : starEach (e :: es) X.env = (false, eval e X.env) :: starEach es X.env := by rfl) (hpl : (backTo pos (starEach es X.env)).any (·.1) = false := by rfl) :
    PE X (.Call (.Name x p) (e :: es) [] pos) (tCall sp [] L2.E0 t) := by
  obtain ⟨f, fd, ps, F, hm, kp, b⟩ := c.ex
  exact pe_call F (hr.mono hk) hg hm kp b .nil passL ha hdb he hpl
def tMethX (C : Addr) (m : Str) (sp : Sp) (E : L2.St → XK) (ta : TE) (t : TA) : TE := fun σ H Q => ta σ H fun x H1 => ∃ a dx fs, x = .ref a ∧ H1 a = some (.ins C dx fs) ∧ fs.lookup m = none ∧ t σ H1 fun vs H2 => sp (.ref a :: vs) H2 Q (E σ)
theorem pe_mtX {pl : Sem Bool} (c : MetX X.prog X.w X.K X.mg X.base k C m sp) (hr : Room j X.A) (hk : k ≤ j) (hx : ∀ σ, PassesAt (L2.CX X.prog X.w) X σ (E σ)) (he : PE X o ta) (ha : PA X (e :: es) t)
    (hst : starEach (e :: es) X.env = (false, eval e X.env) :: starEach es X.env := by rfl) (hpl : (backTo pos (starEach es X.env)).any (·.1) = false := by rfl)
    (ht : eval (.Call (.Attribute o m apos) (e :: es) [] pos) X.env = (do
      let ov ← eval o X.env
      standAt apos.atName
      let (f, first) ← holding [ov] (getMethod ov m pl)
      callWith pos f first (backTo pos (starEach (e :: es) X.env)) (backToKw pos (keywordEach [] X.env))) := by rfl) :
    PE X (.Call (.Attribute o m apos) (e :: es) [] pos) (tMethX C m sp E ta t) := by
  obtain ⟨f, fd, ps, hc, hm, F, b⟩ := c.ex
  refine ⟨fun pins s σ H Q I h => ?_⟩
  refine PySem.W.methodCall_KW (pl := pl) (thn (he.run pins s σ H _ I h) fun u s1 ⟨x, H1, I1, rx, a, dx, fs, ex, ea, l, q⟩ => ?_) ht
  subst ex
  obtain rfl : u = Value.ref a := rx
  refine getmeth_ok I1 ea hc hm l ?_
  refine PySem.W.callWith_K (first := [.ref a]) (h₀ := X.base) I.ok.mod.kin hm.kp (thn (ha.run pos pins s1 σ H1 _ I1 q) fun us s2 ⟨vs, H2, I2, r, q2⟩ => ⟨I2.kIn, ?_⟩) hst hpl
  exact run_fnS (us := .ref a :: us) (vs := .ref a :: vs) F (hr.mono hk) b (hx σ) I2 (.cons rfl r) q2
theorem pe_mtX0 {pl : Sem Bool} (c : MetX X.prog X.w X.K X.mg X.base k C m sp) (hr : Room j X.A) (hk : k ≤ j) (hx : ∀ σ, PassesAt (L2.CX X.prog X.w) X σ (E σ)) (he : PE X o ta)
    (ht : eval (.Call (.Attribute o m apos) [] [] pos) X.env = (do
      let ov ← eval o X.env
      standAt apos.atName
      let (f, first) ← holding [ov] (getMethod ov m pl)
      callWith pos f first (backTo pos (starEach [] X.env)) (backToKw pos (keywordEach [] X.env))) := by rfl) :
    PE X (.Call (.Attribute o m apos) [] [] pos) (tMethX C m sp E ta tNil) := by
  obtain ⟨f, fd, ps, hc, hm, F, b⟩ := c.ex
  refine ⟨fun pins s σ H Q I h => ?_⟩
  refine PySem.W.methodCall_KW (pl := pl) (thn (he.run pins s σ H _ I h) fun u s1 ⟨x, H1, I1, rx, a, dx, fs, ex, ea, l, q⟩ => ?_) ht
  subst ex
  obtain rfl : u = Value.ref a := rx
  refine getmeth_ok I1 ea hc hm l ?_
  exact PySem.W.callWith_K0 (first := [.ref a]) I1.kIn hm.kp (run_fnS (us := [.ref a]) (vs := [.ref a]) F (hr.mono hk) b (hx σ) I1 (.cons rfl .nil) q)
def tMakeX (C : Addr) (sp : Sp) (E : L2.St → XK) (t : TA) : TE := fun σ H Q => t σ H fun vs H1 => ∀ x dx, H1 x = none → H1 dx = none → dx ≠ x → sp (.ref x :: vs) (upd (upd H1 dx (.own x)) x (.ins C dx [])) (fun v H2 => v = .non ∧ Q (.ref x) H2) (E σ)
theorem run_makeX {CX : CXT} {f : Addr} {fd : FuncData} {ps : List Str} {pins : List (Addr × Obj)} {σ : L2.St} {H : Hp} {s : Shared} {Q : VK} {us : List Value} {vs : List V} {Eσ : XK} (M : Mk X.K C f) (F : FnOk X.prog X.w X.K X.mg X.base CX k f fd ps sp) (hr : Room (k + 1) X.A) (hb : Binds X.K fd ps [])
    (hx : PassesAt CX X σ Eσ) (I : Inv X pins σ H s) (r : Vals vs us)
    (h : ∀ x dx, H x = none → H dx = none → dx ≠ x → sp (.ref x :: vs) (upd (upd H dx (.own x)) x (.ins C dx [])) (fun v H2 => v = .non ∧ Q (.ref x) H2) Eσ) :
    wpAny (model X.prog X.w) X.A (call (.ref C) us) (EP X pins σ Q) X.xe s := by
  have hq := h (s.heap.objs.size + 1) s.heap.objs.size (I.hok.fresh (Nat.le_succ _)) (I.hok.fresh (Nat.le_refl _)) (Nat.ne_of_lt (Nat.lt_succ_self _))
  have I2 := Inv.made (C := C) I
  have r2 : Vals (V.ref (s.heap.objs.size + 1) :: vs) (Value.ref (s.heap.objs.size + 1) :: us) := .cons rfl r
  have hl : (Value.ref (s.heap.objs.size + 1) :: us ++ ([] : List Value)).length = ps.length := by
    have e := r2.length
    rw [F.len _ _ _ _ hq] at e
    rw [List.append_nil]
    exact e.symm
  have hb' := hb _ (Value.ref (s.heap.objs.size + 1) :: us) I2.kIn hl
  rw [List.append_nil] at hb'
  refine wpAny_call (make_map (f := f) I.kIn M.makes M.init (beq_iff_eq.mp M.fn) (codeAny_mono (F.run _ X.stack _ _ ⟨Value.ref (s.heap.objs.size + 1) :: us, []⟩ (Value.ref (s.heap.objs.size + 1) :: us) _ _ Eσ (hr.make C us [])
    (I2.env0.make C us []) hb' r2 hq) fun r s' hq' => ?_))
  cases r with
  | error e => exact hx pins _ _ e s' I2 hq'
  | ok fl =>
    cases fl with
    | ret u =>
      obtain ⟨v, H', I3, rv, ev, q3⟩ := I2.after hq'
      subst ev
      exact ⟨rv, ⟨V.ref (s.heap.objs.size + 1), H', I3, rfl, q3⟩⟩
    | next => exact False.elim hq'
    | brk => exact False.elim hq'
    | cont => exact False.elim hq'
theorem pe_mkX (c : MakX X.prog X.w X.K X.mg X.base k x C sp) (hr : Room j X.A) (hk : k + 1 ≤ j) (hg : Gl X x) (hx : ∀ σ, PassesAt (L2.CX X.prog X.w) X σ (E σ)) (ha : PA X (e :: es) t)
    (hdb : (x == ("__debug__" : Str)) = false := by decide) (he : starEach (e :: es) X.env = (false, eval e X.env) :: starEach es X.env := by rfl) (hpl : (backTo pos (starEach es X.env)).any (·.1) = false := by rfl) :
    PE X (.Call (.Name x p) (e :: es) [] pos) (tMakeX C sp E t) := by
  obtain ⟨f, fd, ps, M, F, hm, b⟩ := c.ex
  refine ⟨fun pins s σ H Q I h => ?_⟩
  refine wpAny_Call_Name_kw (ld_glob I hg hm ?_ hdb)
  refine PySem.W.callWith_K (h₀ := X.base) I.ok.mod.kin M.kp (thn (ha.run pos pins s σ H _ I h) fun us s1 ⟨vs, H1, I1, r, q⟩ => ⟨I1.kIn, ?_⟩) he hpl
  exact run_makeX M F (hr.mono hk) b (hx σ) I1 r q
/-- where nothing is let out: for the calls above in a def without errors -/
theorem no_pass : ∀ σ : L2.St, PassesAt (L2.CX X.prog X.w) X σ ((fun _ => L2.E0) σ) := fun σ pins H s e s' I c => passL pins σ H s e s' I c
end

def topS (i : Nat) : Stmt := PySem.Challenge.pw_oathledger_k28_whole_one_block_an_epoch.main.body.getD i (.Pass ⟨0, 0, 0, 0⟩)
abbrev s_Tally____init__ : Stmt := inClass (topS 2) 0
theorem sc_Tally____init__ : FnScope ["self"] ["self"] (defScope s_Tally____init__) := ⟨rfl, rfl, rfl, by decide +kernel, rfl, by decide +kernel, by decide +kernel⟩
abbrev s_Tally__add : Stmt := inClass (topS 2) 1
theorem sc_Tally__add : FnScope ["self", "sender", "block", "blocks"] ["self", "sender", "block"] (defScope s_Tally__add) := ⟨rfl, rfl, rfl, by decide +kernel, rfl, by decide +kernel, by decide +kernel⟩
abbrev s_Tally__number : Stmt := inClass (topS 2) 2
theorem sc_Tally__number : FnScope ["self", "block", "blocks"] ["self", "block"] (defScope s_Tally__number) := ⟨rfl, rfl, rfl, by decide +kernel, rfl, by decide +kernel, by decide +kernel⟩
abbrev s_Notary____init__ : Stmt := inClass (topS 3) 0
theorem sc_Notary____init__ : FnScope ["self", "group"] ["self", "group"] (defScope s_Notary____init__) := ⟨rfl, rfl, rfl, by decide +kernel, rfl, by decide +kernel, by decide +kernel⟩
abbrev s_Notary__add_vote : Stmt := inClass (topS 3) 1
theorem sc_Notary__add_vote : FnScope ["self", "sender", "block"] ["self", "sender", "block"] (defScope s_Notary__add_vote) := ⟨rfl, rfl, rfl, by decide +kernel, rfl, by decide +kernel, by decide +kernel⟩
abbrev s_Notary__add_ready : Stmt := inClass (topS 3) 2
theorem sc_Notary__add_ready : FnScope ["self", "sender", "block"] ["self", "sender", "block"] (defScope s_Notary__add_ready) := ⟨rfl, rfl, rfl, by decide +kernel, rfl, by decide +kernel, by decide +kernel⟩
abbrev s_Notary__votes : Stmt := inClass (topS 3) 3
theorem sc_Notary__votes : FnScope ["self", "block"] ["self", "block"] (defScope s_Notary__votes) := ⟨rfl, rfl, rfl, by decide +kernel, rfl, by decide +kernel, by decide +kernel⟩
abbrev s_Notary__readies : Stmt := inClass (topS 3) 4
theorem sc_Notary__readies : FnScope ["self", "block"] ["self", "block"] (defScope s_Notary__readies) := ⟨rfl, rfl, rfl, by decide +kernel, rfl, by decide +kernel, by decide +kernel⟩
abbrev s_Notary__supported : Stmt := inClass (topS 3) 5
theorem sc_Notary__supported : FnScope ["self", "epoch"] ["self", "epoch"] (defScope s_Notary__supported) := ⟨rfl, rfl, rfl, by decide +kernel, rfl, by decide +kernel, by decide +kernel⟩
abbrev s_Notary__notarized : Stmt := inClass (topS 3) 6
theorem sc_Notary__notarized : FnScope ["self", "epoch"] ["self", "epoch"] (defScope s_Notary__notarized) := ⟨rfl, rfl, rfl, by decide +kernel, rfl, by decide +kernel, by decide +kernel⟩
abbrev s_Notary___judge : Stmt := inClass (topS 3) 9
theorem sc_Notary___judge : FnScope ["self", "block", "readies"] ["self", "block"] (defScope s_Notary___judge) := ⟨rfl, rfl, rfl, by decide +kernel, rfl, by decide +kernel, by decide +kernel⟩
abbrev s_is_integer : Stmt := topS 9
theorem sc_is_integer : FnScope ["value", "least", "greatest"] ["value", "least", "greatest"] (defScope s_is_integer) := ⟨rfl, rfl, rfl, by decide +kernel, rfl, by decide +kernel, by decide +kernel⟩
abbrev s_Group____init__ : Stmt := inClass (topS 11) 0
theorem sc_Group____init__ : FnScope ["self", "faults"] ["self", "faults"] (defScope s_Group____init__) := ⟨rfl, rfl, rfl, by decide +kernel, rfl, by decide +kernel, by decide +kernel⟩
abbrev s__law_cell : Stmt := topS 13
theorem sc__law_cell : FnScope ["script", "k"] ["script", "k"] (defScope s__law_cell) := ⟨rfl, rfl, rfl, by decide +kernel, rfl, by decide +kernel, by decide +kernel⟩
abbrev s__law_shift : Stmt := topS 14
theorem sc__law_shift : FnScope ["number", "base", "times", "k"] ["number", "base", "times"] (defScope s__law_shift) := ⟨rfl, rfl, rfl, by decide +kernel, rfl, by decide +kernel, by decide +kernel⟩
abbrev s__law_draws : Stmt := topS 15
theorem sc__law_draws : FnScope ["script", "start", "most", "draws", "cell", "number", "mixed", "k"] ["script", "start", "most"] (defScope s__law_draws) := ⟨rfl, rfl, rfl, by decide +kernel, rfl, by decide +kernel, by decide +kernel⟩
abbrev s__law_block : Stmt := topS 16
theorem sc__law_block : FnScope ["number"] ["number"] (defScope s__law_block) := ⟨rfl, rfl, rfl, by decide +kernel, rfl, by decide +kernel, by decide +kernel⟩
abbrev s__law_deliver : Stmt := topS 17
theorem sc__law_deliver : FnScope ["notaries", "votes", "promised", "draw", "faults", "machines", "sender", "receiver", "kind", "block"] ["notaries", "votes", "promised", "draw", "faults"] (defScope s__law_deliver) := ⟨rfl, rfl, rfl, by decide +kernel, rfl, by decide +kernel, by decide +kernel⟩
abbrev s_law : Stmt := topS 18
theorem sc_law : FnScope ["script", "faults", "machines", "notaries", "votes", "k", "choice", "promised", "draws", "sweep", "draw", "found", "block"] ["script"] (defScope s_law) := ⟨rfl, rfl, rfl, by decide +kernel, rfl, by decide +kernel, by decide +kernel⟩
structure Txt (K : PySem.W.Frag) (mg : Str → Option Value) (C_Tally : Addr) (C_Notary : Addr) (C_Group : Addr) (C_BadGroup : Addr) : Prop where
  d_is_integer : DefOk K mg "is_integer" s_is_integer ["value", "least", "greatest"]
  d__law_cell : DefOk K mg "_law_cell" s__law_cell ["script", "k"]
  d__law_shift : DefOk K mg "_law_shift" s__law_shift ["number", "base", "times"]
  d__law_draws : DefOk K mg "_law_draws" s__law_draws ["script", "start", "most"]
  d__law_block : DefOk K mg "_law_block" s__law_block ["number"]
  d__law_deliver : DefOk K mg "_law_deliver" s__law_deliver ["notaries", "votes", "promised", "draw", "faults"]
  d_law : DefOk K mg "law" s_law ["script"]
  cl_Tally : Cls K C_Tally
  g_Tally : mg "Tally" = some (.ref C_Tally)
  na_Tally__blocks : NoAttr K C_Tally "_blocks"
  mk_Tally : MakOk K C_Tally "Tally.__init__" s_Tally____init__ ["self"]
  me_Tally__add : MethOk K C_Tally "add" "Tally.add" s_Tally__add ["self", "sender", "block"]
  me_Tally__number : MethOk K C_Tally "number" "Tally.number" s_Tally__number ["self", "block"]
  cl_Notary : Cls K C_Notary
  g_Notary : mg "Notary" = some (.ref C_Notary)
  na_Notary__group : NoAttr K C_Notary "_group"
  na_Notary__votes : NoAttr K C_Notary "_votes"
  na_Notary__readies : NoAttr K C_Notary "_readies"
  na_Notary__supported : NoAttr K C_Notary "_supported"
  na_Notary__notarized : NoAttr K C_Notary "_notarized"
  na_Notary__forgotten : NoAttr K C_Notary "_forgotten"
  mk_Notary : MakOk K C_Notary "Notary.__init__" s_Notary____init__ ["self", "group"]
  me_Notary__add_vote : MethOk K C_Notary "add_vote" "Notary.add_vote" s_Notary__add_vote ["self", "sender", "block"]
  me_Notary__add_ready : MethOk K C_Notary "add_ready" "Notary.add_ready" s_Notary__add_ready ["self", "sender", "block"]
  me_Notary__votes : MethOk K C_Notary "votes" "Notary.votes" s_Notary__votes ["self", "block"]
  me_Notary__readies : MethOk K C_Notary "readies" "Notary.readies" s_Notary__readies ["self", "block"]
  me_Notary__supported : MethOk K C_Notary "supported" "Notary.supported" s_Notary__supported ["self", "epoch"]
  me_Notary__notarized : MethOk K C_Notary "notarized" "Notary.notarized" s_Notary__notarized ["self", "epoch"]
  me_Notary___judge : MethOk K C_Notary "_judge" "Notary._judge" s_Notary___judge ["self", "block"]
  cl_Group : Cls K C_Group
  g_Group : mg "Group" = some (.ref C_Group)
  na_Group_faults : NoAttr K C_Group "faults"
  na_Group_machines : NoAttr K C_Group "machines"
  na_Group_quorum : NoAttr K C_Group "quorum"
  na_Group_blocking : NoAttr K C_Group "blocking"
  mk_Group : MakOk K C_Group "Group.__init__" s_Group____init__ ["self", "faults"]
  x_BadGroup : ExOk K mg "BadGroup" C_BadGroup
  u_BadGroup_BadGroup : PySem.W.subIn K (.ref C_BadGroup) (.ref C_BadGroup) = some true
  c_MOST_FAULTS : ∃ u, mg "MOST_FAULTS" = some u ∧ RelV (.int 10) u
  z_abs : mg "abs" = none
  z_bool : mg "bool" = none
  z_int : mg "int" = none
  z_isinstance : mg "isinstance" = none
  z_len : mg "len" = none
  z_list : mg "list" = none
  z_range : mg "range" = none
set_option pp.maxSteps 150
/-! ### list(d.values()).count(x): rules -/
section
variable {X : Cx}
theorem mt_dvals : MtR X "dict.values" (fun x xs H Q => ∃ (a : Addr) (kvs : List (Key × V)), x = .ref a ∧ xs = [] ∧ H a = some (.dK kvs) ∧ ∀ p, H p = none → Q (.ref p) (upd H p (viewO "dict_values" p a))) := by
  intro pins s σ H x xs v us Q I rx rxs h
  obtain ⟨a, kvs, rfl, rfl, ha, q⟩ := h
  cases rx
  cases rxs
  obtain ⟨_, hsys, vs, rel, dof⟩ := dk_of I.hok ha
  obtain ⟨ep, dat⟩ := dof.dictAt
  have dat' := dat
  obtain ⟨ob, es, ho, ex, hdat, hko, hpr, hnd⟩ := dat'
  refine call_meetsIn F.slot_dict_values ⟨ob, ho, ex.1⟩ F.entry_dict_values (F.args_dict_values_1 _) (meets_dict_values (mixKind X.prog X.w) a hsys) ⟨⟨vs, dof⟩, ?_⟩
  exact ⟨.ref s.heap.objs.size, _, I.laid (t' := s.toks) (fun b o q => Heap.get?_push_of_some _ q) (Nat.le_refl _) (viewO_ok (Heap.get?_push_size _ rfl)), rfl, q _ (I.hok.fresh (Nat.le_refl _))⟩
theorem call_listVals (hcalm : X.calm = true) : CallR X (.type "list") (fun xs H Q => ∃ (p a : Addr) (kvs : List (Key × V)), xs = [.ref p] ∧ H p = some (viewO "dict_values" p a) ∧ H a = some (.dK kvs) ∧ ∀ l, H l = none → Q (.ref l) (upd H l (.lst (kvs.map (·.2))))) := by
  intro pins s σ H xs us Q I r q
  obtain ⟨p, a, kvs, ex, hp, hd, q⟩ := q
  subst ex
  obtain ⟨u, eu, rx⟩ := vals1 r
  subst eu
  cases rx
  obtain ⟨z, lo, vs, rel, dd⟩ := dk_of I.hok hd
  obtain ⟨ep, hat⟩ := dd.dictAt
  have hv : s.heap.get? p = some (DSub.viewOb "dict_values" a) := (show ObjOk X.prog X.w H s.heap p (viewO "dict_values" p a) from I.hok p _ hp).1
  refine PySem.W.kdl_call (PySem.W.kdl_values (knd := mixKind X.prog X.w) (kvs := vs) (ep := ep)) (I.ok.hd hcalm) ⟨⟨_, hv, rfl, rfl⟩, hat⟩ (by rw [← rel.length]; exact z) fun h' tk acc c' hk hD hacc => ?_
  have hvv : Vals (kvs.map (·.2)) acc.toList := vals_of_at (by have e1 := hacc.1; have e2 := rel.length; rw [List.length_map, Array.length_toList]; exact e2.trans e1.symm) fun j x u hx hu => by
    obtain ⟨k, hk⟩ := hacc.2 j u (by rw [← Array.getElem?_toList]; exact hu)
    obtain ⟨y, h1, h2⟩ := KV.at' rel hk
    rw [List.getElem?_map, h1] at hx
    cases hx
    exact h2
  exact ⟨.ref s.heap.objs.size, upd H s.heap.objs.size (.lst (kvs.map (·.2))), I.laid (t' := tk) hk (Nat.le_refl _)
    (show ObjOk X.prog X.w _ _ _ (.lst (kvs.map (·.2))) from ⟨by rw [List.length_map]; exact z, acc.toList, c', hvv, by rw [Array.toArray_toList]; exact hD⟩), rfl, q _ (I.hok.fresh (Nat.le_refl _))⟩
def rCountD (K : PySem.W.Frag) : V → List V → Hp → VK → Prop := fun x xs H Q => ∃ (a : Addr) (y : V) (d : PyData) (ds : List PyData), x = V.ref a ∧ xs = [y] ∧ Dp K H (V.ref a) (.list ds) ∧ Dp K H y d ∧
  SeqAt.shaped (.list ds) = true ∧ SeqAt.shaped d = true ∧ Q (.int ((ds.countP fun z => PyData.eqv z d : Nat) : Int)) H
theorem mt_lcountD (hu : X.A.units + 65 < cLine) : MtR X "list.count" (rCountD X.K) := by
  intro pins s σ H x xs v us Q I rx rxs h
  obtain ⟨a, y, d, ds, rfl, rfl, hl, hy, sl, sd, q⟩ := h
  cases rx
  cases rxs with
  | cons ry rt =>
    rename_i uy ut
    cases rt
    obtain ⟨bs, r1⟩ := Dp.reads I d y uy hy ry
    have hxs : PyData.canLayAll0 ds = true := SeqAt.canLay_of_shaped sl
    have hroom : X.A.units + 1 + min (PyData.depthAll ds) d.depth < cLine := room_in_shaped sd hu
    cases hl with
    | lst hs ha =>
      obtain ⟨its, rv, ⟨⟨cls, dd, data, sls⟩, n, ho, hc, hdn, hdt⟩, hlen⟩ := I.list hs
      simp only at hc hdt
      subst hc hdt
      obtain ⟨as, h4⟩ := Dp.readsAll I ds _ its ha rv
      have hmap : its.map (SeqAt.readOf s.heap) = ds := SeqAt.readsAll_map ds its as hxs h4
      refine call_meets PySem.F.slot_list_count ⟨_, ho, rfl⟩ PySem.F.entry_list_count (PySem.F.args_list_count_2 _ _)
        (SeqAt.list_countAt a its.toArray n dd sls uy (fun u => PyData.eqv (SeqAt.readOf s.heap u) d)) ⟨ho, SeqAt.items_eqAt (vs := its.toArray) (show ReadsAll s.heap its.toArray.toList ds as from h4) r1 hxs (SeqAt.canLay_of_shaped sd) hroom, ?_⟩
      have ec : its.toArray.toList.countP (fun u => PyData.eqv (SeqAt.readOf s.heap u) d) = ds.countP fun z => PyData.eqv z d := by
        rw [← hmap, List.countP_map]; rfl
      refine ⟨.int ((ds.countP fun z => PyData.eqv z d : Nat) : Int), H, I.tok _, ⟨s.toks, ?_⟩, q⟩
      show Value.int ((its.toArray.toList.countP (fun u => PyData.eqv (SeqAt.readOf s.heap u) d) : Nat) : Int) s.toks = Value.int _ s.toks
      rw [ec]
end

/-! ### the draws of a script -/
def Dr (H : Hp) (D A : Addr) : Prop := D ≠ A ∧ ∃ (ds : List Int) (n : Nat), H D = some (.lst (ds.map V.int)) ∧ H A = some (.lst [.int n]) ∧ (∀ d ∈ ds, 0 ≤ d ∧ d < 1000) ∧ ds.length ≤ 2520
/-- all that was tracked but A is as it was -/
def Mod (A : Addr) (H H' : Hp) : Prop := ∀ b o, b ≠ A → H b = some o → H' b = some o
theorem Mod.refl {A : Addr} {H : Hp} : Mod A H H := fun _ _ _ h => h
theorem Mod.trans {A : Addr} {H H1 H2 : Hp} (a : Mod A H H1) (b : Mod A H1 H2) : Mod A H H2 := fun c o n h => b c o n (a c o n h)
theorem Same.mod {A : Addr} {H H' : Hp} (s : Same H H') : Mod A H H' := fun b o _ h => s b o h
theorem Mod.new {A p : Addr} {o : HO} {H H' : Hp} (s : Mod A H H') (h : H' p = none) : Mod A H (upd H' p o) := fun b u n e => by
  rw [upd_ne (ne_of_none (s b u n e) h)]
  exact s b u n e
theorem Dr.new {D A p : Addr} {o : HO} {H : Hp} (d : Dr H D A) (h : H p = none) : Dr (upd H p o) D A := by
  obtain ⟨ne, ds, n, h1, h2, h3⟩ := d
  exact ⟨ne, ds, n, by rw [upd_ne (ne_of_none h1 h)]; exact h1, by rw [upd_ne (ne_of_none h2 h)]; exact h2, h3⟩
theorem Dr.same {D A : Addr} {H H' : Hp} (d : Dr H D A) (s : Same H H') : Dr H' D A := by
  obtain ⟨ne, ds, n, h1, h2, h3⟩ := d
  exact ⟨ne, ds, n, s _ _ h1, s _ _ h2, h3⟩
/-- an object that is neither D nor A is changed -/
theorem Dr.put {D A p : Addr} {o : HO} {H : Hp} (d : Dr H D A) (h1 : p ≠ D) (h2 : p ≠ A) : Dr (upd H p o) D A := by
  obtain ⟨ne, ds, n, e1, e2, h3⟩ := d
  exact ⟨ne, ds, n, by rw [upd_ne h1.symm]; exact e1, by rw [upd_ne h2.symm]; exact e2, h3⟩
theorem Dr.freshA {D A p : Addr} {H : Hp} (d : Dr H D A) (h : H p = none) : p ≠ A := by
  obtain ⟨_, _, _, _, e, _⟩ := d
  exact (ne_of_none e h).symm
theorem Dr.freshD {D A p : Addr} {H : Hp} (d : Dr H D A) (h : H p = none) : p ≠ D := by
  obtain ⟨_, _, _, e, _⟩ := d
  exact (ne_of_none e h).symm
theorem Mod.free {A p : Addr} {H H' : Hp} (s : Mod A H H') (d : ∃ o, H' A = some o) (h : H' p = none) : H p = none := by
  cases e : H p with
  | none => rfl
  | some o =>
    by_cases hp : p = A
    · subst hp
      obtain ⟨o', e'⟩ := d
      rw [e'] at h; cases h
    · rw [s p o hp e] at h; cases h
theorem Dr.A_in {D A : Addr} {H : Hp} (d : Dr H D A) : ∃ o, H A = some o := by
  obtain ⟨_, _, _, _, e, _⟩ := d
  exact ⟨_, e⟩
theorem rng_app {ds : List Int} {x : Int} (h : ∀ d ∈ ds, 0 ≤ d ∧ d < 1000) (h0 : 0 ≤ x) (h1 : x < 1000) : ∀ d ∈ ds ++ [x], 0 ≤ d ∧ d < 1000 := fun d hd => by
  rcases List.mem_append.mp hd with hd | hd
  · exact h d hd
  · rw [List.mem_singleton.mp hd]; exact ⟨h0, h1⟩

/-! ### drawn numbers and strings -/
def prC (c : Nat) : Bool := decide (32 ≤ c) && decide (c ≤ 126) && decide (c ≠ 37)
def isPr (z : Str) : Bool := z.cps.toList.all prC
theorem app_tl (a b : Str) : (a ++ b).cps.toList = a.cps.toList ++ b.cps.toList := by
  show (a.cps ++ b.cps).toList = _
  rw [Array.toList_append]
theorem len_tl (z : Str) : z.cps.toList.length = z.length := Array.length_toList
theorem isPr_app (a b : Str) : isPr (a ++ b) = (isPr a && isPr b) := by
  unfold isPr
  rw [app_tl, List.all_append]

/-! ### values as data: what stands at them does not change -/
def TupAt (K : PySem.W.Frag) (H : Hp) (a : Addr) (xs : List V) : Prop := H a = some (.tup xs) ∨ KTup K a xs
section
variable {K : PySem.W.Frag}
theorem TupAt.sq {H : Hp} {a : Addr} {xs : List V} (h : TupAt K H a xs) : SqT K H a xs := h.elim SqT.of .inr
theorem TupAt.ty {H : Hp} {a : Addr} {xs : List V} (h : TupAt K H a xs) : TyX K H (.ref a) (.type "tuple") := h.elim (fun h => .base (.tup h)) (fun ⟨_, _, _, h1, h2, _⟩ => .kTuple h1 h2)
theorem TupAt.same {H H' : Hp} {a : Addr} {xs : List V} (h : TupAt K H a xs) (s : Same H H') : TupAt K H' a xs := h.imp (s _ _) id
/-- none of those at A (none: no matter) -/
def NeA (A : Option Addr) (a : Addr) : Prop := match A with | some b => a ≠ b | none => True
mutual
/-- v is the data d; the lists in it are none of those at A -/
inductive Dt (K : PySem.W.Frag) (H : Hp) (A : Option Addr) : V → PyData → Prop
  | non : Dt K H A .non .none
  | bl (b : Bool) : Dt K H A (.bl b) (.bool b)
  | int (i : Int) : Dt K H A (.int i) (.int i)
  | str (z : Str) (h : z.length ≤ 1000000) : Dt K H A (.str z) (.str z)
  | lst {a : Addr} {xs : List V} {ds : List PyData} : NeA A a → H a = some (.lst xs) → DtAll K H A xs ds → Dt K H A (.ref a) (.list ds)
  | tup {a : Addr} {xs : List V} {ds : List PyData} : TupAt K H a xs → DtAll K H A xs ds → Dt K H A (.ref a) (.tuple ds)
inductive DtAll (K : PySem.W.Frag) (H : Hp) (A : Option Addr) : List V → List PyData → Prop
  | nil : DtAll K H A [] []
  | cons {v : V} {vs : List V} {d : PyData} {ds : List PyData} : Dt K H A v d → DtAll K H A vs ds → DtAll K H A (v :: vs) (d :: ds)
end
theorem DtAll.length {H : Hp} {A : Option Addr} : ∀ {xs : List V} {ds : List PyData}, DtAll K H A xs ds → xs.length = ds.length
  | _, _, .nil => rfl
  | _, _, .cons _ r => by rw [List.length_cons, List.length_cons, r.length]
theorem DtAll.get {H : Hp} {A : Option Addr} : ∀ {xs : List V} {ds : List PyData} {i : Nat} {x : V}, DtAll K H A xs ds → xs[i]? = some x → ∃ d, ds[i]? = some d ∧ Dt K H A x d
  | _, _, _, _, .nil, e => by simp at e
  | _, _, 0, x, .cons h _, e => by simp at e; subst e; exact ⟨_, rfl, h⟩
  | _, _, i + 1, x, .cons _ r, e => by
    obtain ⟨d, h1, h2⟩ := r.get (i := i) (x := x) (by simpa using e)
    exact ⟨d, by simpa using h1, h2⟩
theorem DtAll.getD {H : Hp} {A : Option Addr} {xs : List V} {ds : List PyData} {i : Nat} {d : PyData} (h : DtAll K H A xs ds) (e : ds[i]? = some d) : ∃ x, xs[i]? = some x ∧ Dt K H A x d := by
  have hi : i < ds.length := (List.getElem?_eq_some_iff.mp e).1
  have hi' : i < xs.length := by rw [h.length]; exact hi
  obtain ⟨d', h1, h2⟩ := h.get (List.getElem?_eq_getElem hi')
  rw [e] at h1
  cases h1
  exact ⟨_, List.getElem?_eq_getElem hi', h2⟩
mutual
theorem Dt.mod {H H' : Hp} {A D : Addr} (s : Mod A H H') (dr : Dr H D A) : ∀ (d : PyData) (v : V), Dt K H (some A) v d → Dt K H' (some A) v d
  | .none, _, h => by cases h; exact .non
  | .bool b, _, h => by cases h; exact .bl b
  | .int i, _, h => by cases h; exact .int i
  | .str z, _, h => by cases h with | str _ hz => exact .str z hz
  | .list ds, _, h => by cases h with | lst hn ha hd => exact .lst hn (s _ _ hn ha) (DtAll.mod s dr ds _ hd)
  | .tuple ds, _, h => by
    cases h with
    | tup ha hd =>
      obtain ⟨_, _, _, _, e, _⟩ := id dr
      exact .tup (ha.imp (fun ha => s _ _ (ne_of ha e (by intro z; cases z)) ha) id) (DtAll.mod s dr ds _ hd)
  | .dict _, _, h => by cases h
theorem DtAll.mod {H H' : Hp} {A D : Addr} (s : Mod A H H') (dr : Dr H D A) : ∀ (ds : List PyData) (xs : List V), DtAll K H (some A) xs ds → DtAll K H' (some A) xs ds
  | [], _, h => by cases h; exact .nil
  | d :: ds, _, h => by cases h with | cons h1 h2 => exact .cons (Dt.mod s dr d _ h1) (DtAll.mod s dr ds _ h2)
end
mutual
theorem Dt.same {H H' : Hp} {A : Option Addr} (s : Same H H') : ∀ (d : PyData) (v : V), Dt K H A v d → Dt K H' A v d
  | .none, _, h => by cases h; exact .non
  | .bool b, _, h => by cases h; exact .bl b
  | .int i, _, h => by cases h; exact .int i
  | .str z, _, h => by cases h with | str _ hz => exact .str z hz
  | .list ds, _, h => by cases h with | lst hn ha hd => exact .lst hn (s _ _ ha) (DtAll.same s ds _ hd)
  | .tuple ds, _, h => by cases h with | tup ha hd => exact .tup (ha.same s) (DtAll.same s ds _ hd)
  | .dict _, _, h => by cases h
theorem DtAll.same {H H' : Hp} {A : Option Addr} (s : Same H H') : ∀ (ds : List PyData) (xs : List V), DtAll K H A xs ds → DtAll K H' A xs ds
  | [], _, h => by cases h; exact .nil
  | d :: ds, _, h => by cases h with | cons h1 h2 => exact .cons (Dt.same s d _ h1) (DtAll.same s ds _ h2)
end
mutual
/-- data for a comparison -/
theorem Dt.dp {H : Hp} {A : Option Addr} : ∀ (d : PyData) (v : V), Dt K H A v d → Dp K H v d
  | .none, _, h => by cases h; exact .non
  | .bool b, _, h => by cases h; exact .bl b
  | .int i, _, h => by cases h; exact .int i
  | .str z, _, h => by cases h; exact .str z
  | .list ds, _, h => by cases h with | lst hn ha hd => exact .lst (SqL.of ha) (DtAll.dp ds _ hd)
  | .tuple ds, _, h => by cases h with | tup ha hd => exact .tup ha.sq (DtAll.dp ds _ hd)
  | .dict _, _, h => by cases h
theorem DtAll.dp {H : Hp} {A : Option Addr} : ∀ (ds : List PyData) (xs : List V), DtAll K H A xs ds → DpAll K H xs ds
  | [], _, h => by cases h; exact .nil
  | d :: ds, _, h => by cases h with | cons h1 h2 => exact .cons (Dt.dp d _ h1) (DtAll.dp ds _ h2)
end
theorem Dt.on {H H' : Hp} {A : Option Addr} {v : V} {d : PyData} (h : Dt K H A v d) (s : Same H H') : Dt K H' A v d := Dt.same s d v h
theorem DtAll.on {H H' : Hp} {A : Option Addr} {xs : List V} {ds : List PyData} (h : DtAll K H A xs ds) (s : Same H H') : DtAll K H' A xs ds := DtAll.same s ds xs h
theorem Dt.by {H H' : Hp} {A D : Addr} {v : V} {d : PyData} (h : Dt K H (some A) v d) (s : Mod A H H') (dr : Dr H D A) : Dt K H' (some A) v d := Dt.mod s dr d v h
theorem DtAll.by {H H' : Hp} {A D : Addr} {xs : List V} {ds : List PyData} (h : DtAll K H (some A) xs ds) (s : Mod A H H') (dr : Dr H D A) : DtAll K H' (some A) xs ds := DtAll.mod s dr ds xs h
theorem Dt.two {H : Hp} {A : Option Addr} {v : V} {d : PyData} (h : Dt K H A v d) : (∃ a xs ds, v = .ref a ∧ d = .tuple ds ∧ TupAt K H a xs ∧ DtAll K H A xs ds) ∨ (∃ T, TyX K H v (.type T) ∧ kitB T "tuple" = some false ∧ ∀ ds, d ≠ .tuple ds) := by
  cases h with
  | tup ha hx => exact .inl ⟨_, _, _, rfl, rfl, ha, hx⟩
  | str z hz => exact .inr ⟨_, .base (.str z), by decide +kernel, fun _ z => nomatch z⟩
  | int i => exact .inr ⟨_, .base (.int i), by decide +kernel, fun _ z => nomatch z⟩
  | non => exact .inr ⟨_, .base .non, by decide +kernel, fun _ z => nomatch z⟩
  | bl b => exact .inr ⟨_, .base (.bl b), by decide +kernel, fun _ z => nomatch z⟩
  | lst _ ha _ => exact .inr ⟨_, .base (.lst ha), by decide +kernel, fun _ z => nomatch z⟩
/-- the kind of a value -/
def dTy : PyData → String
  | .none => "NoneType" | .bool _ => "bool" | .int _ => "int" | .str _ => "str" | .list _ => "list" | .tuple _ => "tuple" | .dict _ => "dict"
theorem Dt.ty {H : Hp} {A : Option Addr} {v : V} {d : PyData} (h : Dt K H A v d) : TyX K H v (.type (dTy d)) := by
  cases h with
  | non => exact .base .non
  | bl b => exact .base (.bl b)
  | int i => exact .base (.int i)
  | str z _ => exact .base (.str z)
  | lst _ ha _ => exact .base (.lst ha)
  | tup ha _ => exact ha.ty
/-! the predicates of the program, upon data -/
def dInt (lo hi : Int) : PyData → Bool
  | .int i => decide (lo ≤ i ∧ i ≤ hi)
  | _ => false
def dShort (m : Int) : PyData → Bool
  | .str z => isPr z && decide ((z.length : Int) ≤ m)
  | _ => false
def dCmd : PyData → Bool
  | .tuple [c, n, t] => dInt (-100) (-1) c && dInt 1 1000000000000 n && dShort 240 t
  | _ => false
def dClient : PyData → Int
  | .tuple (.int c :: _) => c
  | _ => 0
def dAfter : Option Int → PyData → Bool
  | some k, d => decide (k < dClient d)
  | none, _ => true
def befV : Option Int → V
  | some k => .int k
  | none => .non
def dCmdsFrom : Option Int → List PyData → Bool
  | _, [] => true
  | b, d :: r => dCmd d && dAfter b d && dCmdsFrom (some (dClient d)) r
theorem dCmdsFrom_cons (b : Option Int) (d : PyData) (r : List PyData) : dCmdsFrom b (d :: r) = (dCmd d && dAfter b d && dCmdsFrom (some (dClient d)) r) := by cases b <;> rfl
theorem dCmdsFrom_nil (b : Option Int) : dCmdsFrom b [] = true := by cases b <;> rfl
def dCmds : PyData → Bool
  | .tuple ds => dCmdsFrom none ds
  | _ => false
def dHeight (parent : Int) (h : PyData) : Bool := if parent = 0 then dInt 1 1 h else dInt 2 (parent + 1) h
def dBlock4 (e p h cs : PyData) : Bool := match e, p with
  | .int e, .int p => dInt 1 1000000000000 (.int e) && dInt 0 (e - 1) (.int p) && dHeight p h && dCmds cs
  | _, _ => false
def dBlock : PyData → Bool
  | .tuple [e, p, h, cs] => dBlock4 e p h cs
  | _ => false
def dEmpty : PyData → Bool
  | .tuple [] => true
  | _ => false
def dGen : PyData → Bool
  | .tuple [e, p, h, cs] => dInt 0 0 e && dInt 0 0 p && dInt 0 0 h && dEmpty cs
  | _ => false
theorem DtAll.four {H : Hp} {A : Option Addr} {xs : List V} {ds : List PyData} (h : DtAll K H A xs ds) (hl : xs.length = 4) :
    ∃ x1 x2 x3 x4 d1 d2 d3 d4, xs = [x1, x2, x3, x4] ∧ ds = [d1, d2, d3, d4] ∧ Dt K H A x1 d1 ∧ Dt K H A x2 d2 ∧ Dt K H A x3 d3 ∧ Dt K H A x4 d4 := by
  match xs, ds, h with
  | [_, _, _, _], _, .cons h1 (.cons h2 (.cons h3 (.cons h4 .nil))) => exact ⟨_, _, _, _, _, _, _, _, rfl, rfl, h1, h2, h3, h4⟩
theorem dBlock4_e1 {e p h cs : PyData} (z : dInt 1 1000000000000 e = false) : dBlock4 e p h cs = false := by
  unfold dBlock4
  split
  · rw [z]; rfl
  · rfl
theorem dBlock4_e2 {e : Int} {p h cs : PyData} (z : dInt 0 (e - 1) p = false) : dBlock4 (.int e) p h cs = false := by
  unfold dBlock4
  split
  · rename_i h1
    cases h1
    rw [z, Bool.and_false]; rfl
  · rfl
/-- a predicate of one value, kept by growing heaps -/
def spPred (K : PySem.W.Frag) (A : Option Addr) (f : PyData → Bool) : Sp := fun vs H Q _ => ∃ (v : V) (d : PyData), vs = [v] ∧ Dt K H A v d ∧ ∀ H', Same H H' → Q (.bl (f d)) H'
def spIntD (K : PySem.W.Frag) (A : Option Addr) : Sp := fun vs H Q _ => ∃ (v : V) (d : PyData) (lo hi : Int), vs = [v, .int lo, .int hi] ∧ Dt K H A v d ∧ Q (.bl (dInt lo hi d)) H
def spShortD (K : PySem.W.Frag) (A : Option Addr) : Sp := fun vs H Q _ => ∃ (v : V) (d : PyData) (m : Int), vs = [v, .int m] ∧ Dt K H A v d ∧ ∀ H', Same H H' → Q (.bl (dShort m d)) H'
theorem dInt_inv {lo hi : Int} {d : PyData} (h : dInt lo hi d = true) : ∃ i, d = .int i ∧ lo ≤ i ∧ i ≤ hi := by
  cases d with
  | int i =>
    have h : decide (lo ≤ i ∧ i ≤ hi) = true := h
    exact ⟨i, rfl, (of_decide_eq_true h).1, (of_decide_eq_true h).2⟩
  | none => cases h
  | bool b => cases h
  | str z => cases h
  | list ds => cases h
  | tuple ds => cases h
  | dict k => cases h
theorem dShort_inv {m : Int} {d : PyData} (h : dShort m d = true) : ∃ z : Str, d = .str z ∧ isPr z = true ∧ (z.length : Int) ≤ m := by
  cases d with
  | str z =>
    have h : (isPr z && decide ((z.length : Int) ≤ m)) = true := h
    obtain ⟨h1, h2⟩ := Bool.and_eq_true_iff.mp h
    exact ⟨z, rfl, h1, of_decide_eq_true h2⟩
  | none => cases h
  | bool b => cases h
  | int i => cases h
  | list ds => cases h
  | tuple ds => cases h
  | dict k => cases h
theorem dCmd_inv {d : PyData} (h : dCmd d = true) : ∃ (c n : Int) (t : Str), d = .tuple [.int c, .int n, .str t] ∧ -100 ≤ c ∧ c ≤ -1 ∧ 1 ≤ n ∧ n ≤ 1000000000000 ∧ isPr t = true ∧ (t.length : Int) ≤ 240 := by
  unfold dCmd at h
  split at h
  · rename_i c n t
    rw [Bool.and_eq_true, Bool.and_eq_true] at h
    obtain ⟨⟨h1, h2⟩, h3⟩ := h
    obtain ⟨c, rfl, c0, c1⟩ := dInt_inv h1
    obtain ⟨n, rfl, n0, n1⟩ := dInt_inv h2
    obtain ⟨t, rfl, t0, t1⟩ := dShort_inv h3
    exact ⟨c, n, t, rfl, c0, c1, n0, n1, t0, t1⟩
  · cases h
/-- what a tuple of three ints, ints, texts stands for -/
theorem Dt.three {H : Hp} {A : Option Addr} {v : V} {d1 d2 d3 : PyData} (h : Dt K H A v (.tuple [d1, d2, d3])) : ∃ a x1 x2 x3, v = .ref a ∧ TupAt K H a [x1, x2, x3] ∧ Dt K H A x1 d1 ∧ Dt K H A x2 d2 ∧ Dt K H A x3 d3 := by
  cases h with
  | tup ha hd =>
    cases hd with
    | cons h1 hd =>
      cases hd with
      | cons h2 hd =>
        cases hd with
        | cons h3 hd =>
          cases hd
          exact ⟨_, _, _, _, rfl, ha, h1, h2, h3⟩
mutual
theorem Dt.any {H : Hp} {A : Option Addr} : ∀ (d : PyData) (v : V), Dt K H A v d → Dt K H none v d
  | .none, _, h => by cases h; exact .non
  | .bool b, _, h => by cases h; exact .bl b
  | .int i, _, h => by cases h; exact .int i
  | .str z, _, h => by cases h with | str _ hz => exact .str z hz
  | .list ds, _, h => by cases h with | lst hn ha hd => exact .lst trivial ha (DtAll.any ds _ hd)
  | .tuple ds, _, h => by cases h with | tup ha hd => exact .tup ha (DtAll.any ds _ hd)
  | .dict _, _, h => by cases h
theorem DtAll.any {H : Hp} {A : Option Addr} : ∀ (ds : List PyData) (xs : List V), DtAll K H A xs ds → DtAll K H none xs ds
  | [], _, h => by cases h; exact .nil
  | d :: ds, _, h => by cases h with | cons h1 h2 => exact .cons (Dt.any d _ h1) (DtAll.any ds _ h2)
end
theorem Dt.an {H : Hp} {A : Option Addr} {v : V} {d : PyData} (h : Dt K H A v d) : Dt K H none v d := Dt.any d v h
/-! data without lists -/
mutual
def noL : PyData → Bool
  | .list _ => false
  | .tuple ds => noLs ds
  | _ => true
def noLs : List PyData → Bool
  | [] => true
  | d :: r => noL d && noLs r
end
/-- tracked tuples stay -/
def Tp (H H' : Hp) : Prop := ∀ a xs, H a = some (.tup xs) → H' a = some (.tup xs)
mutual
theorem Dt.keep {H H' : Hp} {A B : Option Addr} (t : Tp H H') : ∀ (d : PyData) (v : V), noL d = true → Dt K H A v d → Dt K H' B v d
  | .none, _, _, h => by cases h; exact .non
  | .bool b, _, _, h => by cases h; exact .bl b
  | .int i, _, _, h => by cases h; exact .int i
  | .str z, _, _, h => by cases h with | str _ hz => exact .str z hz
  | .list ds, _, n, _ => by cases n
  | .tuple ds, _, n, h => by cases h with | tup ha hd => exact .tup (ha.imp (t _ _) id) (DtAll.keep t ds _ n hd)
  | .dict _, _, _, h => by cases h
theorem DtAll.keep {H H' : Hp} {A B : Option Addr} (t : Tp H H') : ∀ (ds : List PyData) (xs : List V), noLs ds = true → DtAll K H A xs ds → DtAll K H' B xs ds
  | [], _, _, h => by cases h; exact .nil
  | d :: ds, _, n, h => by
    have n : (noL d && noLs ds) = true := n
    rw [Bool.and_eq_true] at n
    cases h with | cons h1 h2 => exact .cons (Dt.keep t d _ n.1 h1) (DtAll.keep t ds _ n.2 h2)
end
theorem DtAll.snoc {H : Hp} {A : Option Addr} : ∀ {xs : List V} {ds : List PyData} {x : V} {d : PyData}, DtAll K H A xs ds → Dt K H A x d → DtAll K H A (xs ++ [x]) (ds ++ [d])
  | _, _, _, _, .nil, h => .cons h .nil
  | _, _, _, _, .cons h r, h2 => .cons h (r.snoc h2)
theorem TupAt.tp {H H' : Hp} {a : Addr} {xs : List V} (h : TupAt K H a xs) (t : Tp H H') : TupAt K H' a xs := h.imp (t _ _) id
theorem Same.tp {H H' : Hp} (s : Same H H') : Tp H H' := fun _ _ h => s _ _ h
theorem Mod.tp {H H' : Hp} {A D : Addr} (s : Mod A H H') (dr : Dr H D A) : Tp H H' := fun a xs h => by
  obtain ⟨_, _, _, _, e, _⟩ := id dr
  exact s _ _ (ne_of h e (by intro z; cases z)) h
theorem tp_put {H : Hp} {l : Addr} {xs ys : List V} (h : H l = some (.lst xs)) : Tp H (upd H l (.lst ys)) := fun a zs e => by
  rw [upd_ne (ne_of e h (by intro z; cases z))]; exact e
theorem dCmd_noL {d : PyData} (h : dCmd d = true) : noL d = true := by
  obtain ⟨c, n, t, rfl, _⟩ := dCmd_inv h
  rfl
theorem dCmdsFrom_noL : ∀ {ds : List PyData} {b : Option Int}, dCmdsFrom b ds = true → noLs ds = true
  | [], _, _ => rfl
  | d :: r, b, h => by
    rw [dCmdsFrom_cons, Bool.and_eq_true, Bool.and_eq_true] at h
    show (noL d && noLs r) = true
    rw [dCmd_noL h.1.1, dCmdsFrom_noL h.2]; rfl
theorem dCmdsFrom_all : ∀ {ds : List PyData} {b : Option Int}, dCmdsFrom b ds = true → ∀ d ∈ ds, dCmd d = true
  | [], _, _, _, m => nomatch m
  | d :: r, b, h, e, m => by
    rw [dCmdsFrom_cons, Bool.and_eq_true, Bool.and_eq_true] at h
    rcases List.mem_cons.mp m with rfl | m
    · exact h.1.1
    · exact dCmdsFrom_all h.2 e m
def lastC : Option Int → List PyData → Option Int
  | b, [] => b
  | _, d :: r => lastC (some (dClient d)) r
theorem lastC_snoc : ∀ (ds : List PyData) (b : Option Int) (d : PyData), lastC b (ds ++ [d]) = some (dClient d)
  | [], _, _ => rfl
  | _ :: r, _, d => lastC_snoc r _ d
theorem dCmdsFrom_snoc : ∀ (ds : List PyData) (b : Option Int) (d : PyData), dCmdsFrom b (ds ++ [d]) = (dCmdsFrom b ds && (dCmd d && dAfter (lastC b ds) d))
  | [], b, d => by
    show dCmdsFrom b [d] = _
    rw [dCmdsFrom_cons, dCmdsFrom_nil, dCmdsFrom_nil, Bool.and_true, Bool.true_and]; rfl
  | e :: r, b, d => by
    show dCmdsFrom b (e :: (r ++ [d])) = _
    rw [dCmdsFrom_cons, dCmdsFrom_snoc r, dCmdsFrom_cons, Bool.and_assoc, Bool.and_assoc, Bool.and_assoc]; rfl
end
theorem noLs_all : ∀ {ds : List PyData}, (∀ d ∈ ds, noL d = true) → noLs ds = true
  | [], _ => rfl
  | d :: r, h => by
    show (noL d && noLs r) = true
    rw [h d List.mem_cons_self, noLs_all (fun e he => h e (List.mem_cons_of_mem _ he))]; rfl

theorem atI_lt {α : Type} {xs : List α} {i : Int} (h0 : 0 ≤ i) (h1 : i < xs.length) : ∃ v, v ∈ xs ∧ atI xs i = some v := by
  obtain ⟨j, rfl⟩ := Int.eq_ofNat_of_zero_le h0
  have hj : j < xs.length := Int.ofNat_lt.mp h1
  exact ⟨xs[j], List.getElem_mem hj, atI_nat (List.getElem?_eq_getElem hj)⟩

/-! ### dicts as lists of pairs -/
section
variable {κ α : Type} [DecidableEq κ]
def gA (ks : List (κ × α)) (c : κ) : Option α := (ks.find? fun k => decide (k.1 = c)).map (·.2)
def pA (ks : List (κ × α)) (c : κ) (x : α) : List (κ × α) := if (ks.any fun k => decide (k.1 = c)) = true then ks.map (fun k => if k.1 = c then (k.1, x) else k) else ks ++ [(c, x)]
/-- the pairs as they stand in a dict -/
def kvs (em : κ → Key) (f : α → V) (ks : List (κ × α)) : List (Key × V) := ks.map fun k => (em k.1, f k.2)
def kOk (ks : List (κ × α)) : Prop := (ks.map (·.1)).Nodup
theorem gA_kvs {em : κ → Key} (inj : ∀ a b, em a = em b → a = b) (f : α → V) : ∀ (ks : List (κ × α)) (c : κ), valV (kvs em f ks) (em c) = (gA ks c).map f
  | [], _ => rfl
  | k :: r, c => by
    have ih := gA_kvs inj f r c
    unfold kvs valV gA at ih ⊢
    rw [List.map_cons, List.find?_cons, List.find?_cons]
    by_cases h : k.1 = c
    · have h1 : decide (em k.1 = em c) = true := decide_eq_true (by rw [h])
      rw [h1, decide_eq_true h]; rfl
    · have h1 : decide (em k.1 = em c) = false := decide_eq_false (fun z => h (inj _ _ z))
      rw [h1, decide_eq_false h]; exact ih
theorem pA_kvs {em : κ → Key} (inj : ∀ a b, em a = em b → a = b) (f : α → V) (ks : List (κ × α)) (c : κ) (x : α) : putK (kvs em f ks) (em c) (f x) = kvs em f (pA ks c x) := by
  have e : ∀ k : κ × α, decide (em k.1 = em c) = decide (k.1 = c) := fun k => decide_eq_decide.mpr ⟨fun z => inj _ _ z, fun z => by rw [z]⟩
  unfold putK pA kvs
  rw [List.any_map, show ((fun kv : Key × V => decide (kv.1 = em c)) ∘ fun k : κ × α => (em k.1, f k.2)) = fun k => decide (k.1 = c) from funext e]
  split
  · rw [List.map_map, List.map_map]
    refine List.map_congr_left fun k _ => ?_
    show (if em k.1 = em c then (em k.1, f x) else (em k.1, f k.2)) = (fun k : κ × α => (em k.1, f k.2)) (if k.1 = c then (k.1, x) else k)
    by_cases h : k.1 = c
    · rw [if_pos h, if_pos (by rw [h])]
    · rw [if_neg h, if_neg (fun z => h (inj _ _ z))]
  · rw [List.map_append]; rfl
theorem pA_len (ks : List (κ × α)) (c : κ) (x : α) : (pA ks c x).length ≤ ks.length + 1 := by
  unfold pA
  split
  · rw [List.length_map]; omega
  · rw [List.length_append]; exact Nat.le_refl _
theorem kvs_len (em : κ → Key) (f : α → V) (ks : List (κ × α)) : (kvs em f ks).length = ks.length := List.length_map _
theorem any_mem {ks : List (κ × α)} {c : κ} : (ks.any fun k => decide (k.1 = c)) = true ↔ c ∈ ks.map (·.1) := by
  rw [List.any_eq_true, List.mem_map]
  constructor
  · rintro ⟨k, hk, e⟩; exact ⟨k, hk, of_decide_eq_true e⟩
  · rintro ⟨k, hk, e⟩; exact ⟨k, hk, decide_eq_true e⟩
theorem pA_keys (ks : List (κ × α)) (c : κ) (x : α) : (pA ks c x).map (·.1) = if c ∈ ks.map (·.1) then ks.map (·.1) else ks.map (·.1) ++ [c] := by
  unfold pA
  by_cases h : c ∈ ks.map (·.1)
  · rw [if_pos (any_mem.mpr h), if_pos h, List.map_map]
    refine List.map_congr_left fun k _ => ?_
    show (if k.1 = c then (k.1, x) else k).1 = k.1
    split <;> rfl
  · rw [if_neg (fun z => h (any_mem.mp z)), if_neg h, List.map_append]; rfl
theorem pA_ok {ks : List (κ × α)} (c : κ) (x : α) (h : kOk ks) : kOk (pA ks c x) := by
  unfold kOk at *
  rw [pA_keys]
  split
  · exact h
  · rename_i hn
    rw [List.nodup_append]
    refine ⟨h, by simp, fun a ha b hb => ?_⟩
    have hb : b = c := by simpa using hb
    rw [hb]
    intro e
    exact hn (e ▸ ha)
theorem gA_none {ks : List (κ × α)} {c : κ} : gA ks c = none ↔ c ∉ ks.map (·.1) := by
  unfold gA
  rw [Option.map_eq_none_iff, List.find?_eq_none]
  constructor
  · intro h m
    obtain ⟨k, hk, e⟩ := List.mem_map.mp m
    exact h k hk (decide_eq_true e)
  · intro h k hk e
    exact h (List.mem_map.mpr ⟨k, hk, of_decide_eq_true e⟩)
theorem gA_mem : ∀ {ks : List (κ × α)} {k : κ × α}, kOk ks → k ∈ ks → gA ks k.1 = some k.2
  | q :: r, k, h, m => by
    unfold kOk at h
    rw [List.map_cons, List.nodup_cons] at h
    unfold gA
    rw [List.find?_cons]
    rcases List.mem_cons.mp m with rfl | m
    · rw [decide_eq_true rfl]; rfl
    · by_cases e : q.1 = k.1
      · exact absurd (e ▸ List.mem_map_of_mem (f := (·.1)) m) h.1
      · rw [decide_eq_false e]
        exact gA_mem (ks := r) h.2 m
theorem gA_some {ks : List (κ × α)} {c : κ} {x : α} (h : gA ks c = some x) : (c, x) ∈ ks := by
  unfold gA at h
  rw [Option.map_eq_some_iff] at h
  obtain ⟨k, h1, rfl⟩ := h
  have h2 := List.find?_some h1
  have h3 := List.mem_of_find?_eq_some h1
  have : k.1 = c := of_decide_eq_true h2
  rw [← this]; exact h3
theorem pA_mem {ks : List (κ × α)} {c : κ} {x : α} {k : κ × α} (h : k ∈ pA ks c x) : k = (c, x) ∨ (k ∈ ks ∧ k.1 ≠ c) := by
  unfold pA at h
  split at h
  · obtain ⟨q, hq, e⟩ := List.mem_map.mp h
    by_cases hc : q.1 = c
    · rw [if_pos hc] at e; exact .inl (by rw [← e, hc])
    · rw [if_neg hc] at e; subst e; exact .inr ⟨hq, hc⟩
  · rename_i hn
    rcases List.mem_append.mp h with h | h
    · exact .inr ⟨h, fun e => hn (any_mem.mpr (List.mem_map.mpr ⟨k, h, e⟩))⟩
    · exact .inl (List.mem_singleton.mp h)
theorem gA_put {ks : List (κ × α)} (h : kOk ks) (c d : κ) (x : α) : gA (pA ks c x) d = if d = c then some x else gA ks d := by
  have h2 := pA_ok c x h
  by_cases e : d = c
  · subst e
    rw [if_pos rfl]
    have hm : d ∈ (pA ks d x).map (·.1) := by
      rw [pA_keys]; split
      · assumption
      · exact List.mem_append_right _ (List.mem_singleton.mpr rfl)
    obtain ⟨k, hk, ek⟩ := List.mem_map.mp hm
    have := gA_mem h2 hk
    rw [ek] at this
    rw [this]
    rcases pA_mem hk with e | ⟨_, e⟩
    · rw [e]
    · exact absurd ek e
  · rw [if_neg e]
    cases g : gA ks d with
    | none =>
      rw [gA_none] at g ⊢
      rw [pA_keys]
      split
      · exact g
      · intro m
        rcases List.mem_append.mp m with m | m
        · exact g m
        · exact e (List.mem_singleton.mp m)
    | some y =>
      have hm := gA_some g
      have : (d, y) ∈ pA ks c x := by
        unfold pA
        split
        · exact List.mem_map.mpr ⟨(d, y), hm, if_neg e⟩
        · exact List.mem_append_left _ hm
      exact gA_mem h2 this
theorem kvs_keys {em : κ → Key} {f : α → V} {ks : List (κ × α)} : (kvs em f ks).map (·.1) = (ks.map (·.1)).map em := by
  unfold kvs
  rw [List.map_map, List.map_map]; rfl
end
theorem inlI : ∀ a b : Int, (Sum.inl a : Key) = Sum.inl b → a = b := fun _ _ z => Sum.inl.inj z
theorem inrI : ∀ a b : Str, (Sum.inr a : Key) = Sum.inr b → a = b := fun _ _ z => Sum.inr.inj z

theorem unlock_same {H H' : Hp} {d : Addr} {od : Obj} {u : HO} (hd : H d = some u) (s : Same (upd H d (.frz od u)) H') : Same H (upd H' d u) := fun b o e => by
  by_cases h : b = d
  · subst h; rw [upd_same]; rw [hd] at e; exact e
  · rw [upd_ne h]; exact s _ _ (by rw [upd_ne h]; exact e)
theorem tp_unlock {H' : Hp} {d : Addr} {od : Obj} {u v : HO} (hd : H' d = some (.frz od v)) : Tp H' (upd H' d u) := fun a xs e => by
  rw [upd_ne (ne_of e hd (by intro z; cases z))]; exact e
theorem tp_lockT {H : Hp} {d : Addr} {od : Obj} {kv : List (List Key × V)} {u : HO} (hd : H d = some (.dT kv)) : Tp H (upd H d u) := fun a xs e => by
  rw [upd_ne (ne_of e hd (by intro z; cases z))]; exact e

/-! ### data for comparisons: shape and depth -/
def Ly (k : Nat) (d : PyData) : Prop := d.canLay0 = true ∧ d.depth ≤ k
theorem ly_all {k : Nat} : ∀ {ds : List PyData}, (∀ d ∈ ds, Ly k d) → PyData.canLayAll0 ds = true ∧ PyData.depthAll ds ≤ k
  | [], _ => ⟨by simp [PyData.canLayAll0], by simp [PyData.depthAll]⟩
  | d :: r, h => by
    obtain ⟨i1, i2⟩ := ly_all fun z hz => h z (List.mem_cons_of_mem _ hz)
    obtain ⟨l1, l2⟩ := h d List.mem_cons_self
    constructor
    · rw [PyData.canLayAll0, i1, l1]; rfl
    · rw [PyData.depthAll]; omega
theorem ly_tup {k : Nat} {ds : List PyData} (h : ∀ d ∈ ds, Ly k d) : Ly (k + 1) (.tuple ds) := by
  obtain ⟨a, b⟩ := ly_all h
  exact ⟨by rw [PyData.canLay0]; exact a, by rw [PyData.depth]; omega⟩
theorem ly_lst {k : Nat} {ds : List PyData} (h : ∀ d ∈ ds, Ly k d) : Ly (k + 1) (.list ds) := by
  obtain ⟨a, b⟩ := ly_all h
  exact ⟨by rw [PyData.canLay0]; exact a, by rw [PyData.depth]; omega⟩
theorem ly_int {k : Nat} (i : Int) : Ly k (.int i) := ⟨by simp [PyData.canLay0], by simp [PyData.depth]⟩
theorem ly_non {k : Nat} : Ly k .none := ⟨by simp [PyData.canLay0], by simp [PyData.depth]⟩
theorem ly_bl {k : Nat} (b : Bool) : Ly k (.bool b) := ⟨by simp [PyData.canLay0], by simp [PyData.depth]⟩
theorem ly_str {k : Nat} {z : Str} (h : PyData.strOk z = true) : Ly k (.str z) := ⟨by simp [PyData.canLay0, h], by simp [PyData.depth]⟩
theorem Ly.mono {k j : Nat} {d : PyData} (h : Ly k d) (le : k ≤ j) : Ly j d := ⟨h.1, Nat.le_trans h.2 le⟩
theorem ly_nil {k : Nat} : ∀ d ∈ ([] : List PyData), Ly k d := fun _ m => nomatch m
theorem ly_cons {k : Nat} {d : PyData} {r : List PyData} (h : Ly k d) (hr : ∀ d ∈ r, Ly k d) : ∀ e ∈ d :: r, Ly k e := fun e m => by
  rcases List.mem_cons.mp m with rfl | m
  · exact h
  · exact hr e m
theorem ly_app {k : Nat} {r s : List PyData} (hr : ∀ d ∈ r, Ly k d) (hs : ∀ d ∈ s, Ly k d) : ∀ e ∈ r ++ s, Ly k e := fun e m => by
  rcases List.mem_append.mp m with m | m
  · exact hr e m
  · exact hs e m
theorem shpL {d : PyData} (h : Ly 20 d) : SeqAt.shaped d = true ∧ PyData.eqv d d = true := by
  refine ⟨?_, SeqAt.eqv_refl _ h.1⟩
  unfold SeqAt.shaped
  rw [h.1, decide_eq_true (by have := h.2; omega)]; rfl

/-! ### the draws of a script, by its cells -/
def cellA (ns : List Int) (k : Nat) : Int := ((ns.getD k 0).natAbs : Int)
theorem cellA_nonneg (ns : List Int) (k : Nat) : 0 ≤ cellA ns k := Int.natCast_nonneg _
def spCellA (K : PySem.W.Frag) : Sp := fun vs H Q _ => ∃ (a : Addr) (ns : List Int) (k : Nat), vs = [.ref a, .int k] ∧ SqL K H a (ns.map V.int) ∧ Q (.int (cellA ns k)) H
def spDraws2 (K : PySem.W.Frag) : Sp := fun vs H Q _ => ∃ (a : Addr) (ns : List Int) (st most : Nat), vs = [.ref a, .int st, .int most] ∧ SqL K H a (ns.map V.int) ∧ ns.length ≤ 63 ∧
  ∀ (H' : Hp) (D : Addr) (ds : List Int), Same H H' → H D = none → H' D = some (.lst (ds.map V.int)) → (∀ d ∈ ds, 0 ≤ d ∧ d < 1000000000000000000) → ds.length ≤ most → Q (.ref D) H'
theorem same_none {H H' : Hp} {p : Addr} (s : Same H H') (h : H' p = none) : H p = none := by
  cases e : H p with
  | none => rfl
  | some o => rw [s p o e] at h; cases h

theorem abs_natAbs (i : Int) : (if i < 0 then -i else i) = (i.natAbs : Int) := by split <;> omega
theorem rng_app2 {ds : List Int} {x : Int} (h : ∀ d ∈ ds, 0 ≤ d ∧ d < 1000000000000000000) (h0 : 0 ≤ x) (h1 : x < 1000000000000000000) : ∀ d ∈ ds ++ [x], 0 ≤ d ∧ d < 1000000000000000000 := fun d hd => by
  rcases List.mem_append.mp hd with hd | hd
  · exact h d hd
  · rw [List.mem_singleton.mp hd]; exact ⟨h0, h1⟩
theorem cutV_map {α : Type} (f : α → V) (xs : List α) (lo hi : Option Int) : ∃ ys : List α, cutV (xs.map f) lo hi = ys.map f ∧ ys.length ≤ xs.length ∧ (∀ y ∈ ys, y ∈ xs) := by
  refine ⟨(xs.drop (HT.sIx xs.length 0 lo)).take (HT.sIx xs.length xs.length hi - HT.sIx xs.length 0 lo), ?_, ?_, ?_⟩
  · unfold cutV
    rw [List.length_map, List.map_take, List.map_drop]
  · rw [List.length_take, List.length_drop]; omega
  · intro y hy
    exact List.mem_of_mem_drop (List.mem_of_mem_take hy)
theorem cutV_most (xs : List Int) (m : Nat) : ∃ ys : List Int, cutV (xs.map V.int) none (some (m : Int)) = ys.map V.int ∧ ys.length ≤ m ∧ (∀ y ∈ ys, y ∈ xs) := by
  obtain ⟨ys, e, _, h⟩ := cutV_map V.int xs none (some (m : Int))
  refine ⟨ys, e, ?_, h⟩
  have hl := congrArg List.length e
  rw [List.length_map] at hl
  rw [← hl]
  unfold cutV
  rw [List.length_take, List.length_drop]
  have : HT.sIx (xs.map V.int).length (xs.map V.int).length (some (m : Int)) ≤ m := by
    rw [HT.sIx_nat]
    exact Nat.min_le_left _ _
  omega
section
variable {P : Program} {w : World} {K : PySem.W.Frag} {mg : Str → Option Value} {base : Heap}
theorem c__law_cell {C_Tally : Addr} {C_Notary : Addr} {C_Group : Addr} {C_BadGroup : Addr} (T : Txt K mg C_Tally C_Notary C_Group C_BadGroup) : Cal P w K mg base 1 "_law_cell" (spCellA K) [] := by
  refine cal T.d__law_cell sc__law_cell (fun vs H Q E h => ?_) (fun f cdv A outer s H vs Q E hr h => ?_)
  · obtain ⟨a, ns, k, rfl, _⟩ := h; rfl
  obtain ⟨a, ns, k, rfl, hS, q⟩ := h
  refine ⟨_, (pss_cons (ps_if (pt_cmpR op_lt (pv 1) (pe_callB (klen (K := K)) (by rfl) T.z_len (by decide +kernel) (pa_cons (pv 0) pa_nil)) (nomark _)) (pss_one (ps_ret (pe_callB call_abs (by rfl) T.z_abs (by decide +kernel) (pa_cons (pe_callTy call_int1 (by rfl) T.z_int (by decide +kernel) (pa_cons (pe_ix (kixl (K := K)) (pv 0) (pv 1) (fun _ _ => rfl)) pa_nil)) pa_nil)))) pss_nil)
      (pss_one (ps_ret pe_int))), ?_⟩
  refine ⟨.int k, rfl, .ref a, rfl, a, _, rfl, .inl hS, _, _, rfl, rfl, _, rfl, ite2 (fun e => ?_) (fun e => ?_)⟩
  · have e := of_decide_eq_true e
    rw [List.length_map] at e
    have e1 : k < ns.length := by omega
    have g : (ns.map V.int)[k]? = some (.int (ns.getD k 0)) := by
      rw [List.getElem?_map, List.getD_eq_getElem?_getD, List.getElem?_eq_getElem e1]; rfl
    refine ⟨.ref a, rfl, .int k, rfl, a, _, _, _, rfl, rfl, hS, atI_nat g, ?_⟩
    walk_at "rds"
    rw [abs_natAbs]
    exact q
  · have e2 : ¬ ((k : Int) < ((ns.map V.int).length : Int)) := fun z => e (decide_eq_true z)
    rw [List.length_map] at e2
    have e1 : ns.getD k 0 = 0 := by
      rw [List.getD_eq_getElem?_getD, List.getElem?_eq_none (by omega)]; rfl
    unfold cellA at q
    rw [e1] at q
    exact q
theorem c__law_draws {C_Tally : Addr} {C_Notary : Addr} {C_Group : Addr} {C_BadGroup : Addr} (T : Txt K mg C_Tally C_Notary C_Group C_BadGroup) : Cal P w K mg base 1 "_law_draws" (spDraws2 K) [] := by
  refine cal T.d__law_draws sc__law_draws (fun vs H Q E h => ?_) (fun f cdv A outer s H vs Q E hr h => ?_)
  · obtain ⟨a, ns, st, most, rfl, _⟩ := h; rfl
  obtain ⟨a, ns, st, most, rfl, hS, hlen, q⟩ := h
  refine ⟨_, (pss_cons (ps_set (i := 3) sc__law_draws.nd rfl (Or.inl rfl) (pe_lst pa_nil))
      (pss_cons (ps_for PassesOwn.never rfl (pi_list (pe_slice (ksll (K := K)) (pv 0) (po_some (pv 1)) po_none)) (pg_name (i := 4) sc__law_draws.nd rfl (Or.inl rfl)) (pss_cons (ps_set (i := 5) sc__law_draws.nd rfl (Or.inl rfl) (pe_callB call_abs (by rfl) T.z_abs (by decide +kernel) (pa_cons (pe_callTy call_int1 (by rfl) T.z_int (by decide +kernel) (pa_cons (pv 4) pa_nil)) pa_nil)))
      (pss_one (ps_if (pt_cmpR op_lt (pv 5) (pe_op op_pow pe_int pe_int) (nomark _)) (pss_cons (ps_set (i := 6) sc__law_draws.nd rfl (Or.inl rfl) (pe_op op_mod (pe_callTy call_int1 (by rfl) T.z_int (by decide +kernel) (pa_cons (pe_op op_add (pe_op op_mul (pv 5) pe_int) pe_int) pa_nil)) pe_int))
      (pss_cons (ps_expr (pe_bm PySem.F.plainAttrs_list PySem.F.slot_list_append PySem.F.type_list_append mt_append (pv 3) (pa_cons (pv 5) pa_nil)))
      (pss_cons (ps_expr (pe_bm PySem.F.plainAttrs_list PySem.F.slot_list_append PySem.F.type_list_append mt_append (pv 3) (pa_cons (pe_op op_fdiv (pe_op op_mod (pe_callTy call_int1 (by rfl) T.z_int (by decide +kernel) (pa_cons (pe_op op_add (pe_op op_add (pe_op op_mul (pv 6) pe_int) (pe_op op_fdiv (pv 5) pe_int)) pe_int) pa_nil)) pe_int) pe_int) pa_nil)))
      (pss_one (ps_expr (pe_bm PySem.F.plainAttrs_list PySem.F.slot_list_append PySem.F.type_list_append mt_append (pv 3) (pa_cons (pe_op op_fdiv (pe_op op_mod (pe_callTy call_int1 (by rfl) T.z_int (by decide +kernel) (pa_cons (pe_op op_add (pe_op op_add (pe_op op_mul (pv 6) pe_int) (pe_op op_fdiv (pv 5) pe_int)) pe_int) pa_nil)) pe_int) pe_int) pa_nil))))))) (pss_one (ps_for PassesOwn.never rfl (pi_range1 (by rfl) T.z_range (pa_cons pe_int pa_nil)) (pg_name (i := 7) sc__law_draws.nd rfl (Or.inl rfl)) (pss_cons (ps_if (pt_cmpR op_gt (pv 5) pe_int (nomark _)) (pss_one (ps_expr (pe_bm PySem.F.plainAttrs_list PySem.F.slot_list_append PySem.F.type_list_append mt_append (pv 3) (pa_cons (pe_op op_mod (pe_callTy call_int1 (by rfl) T.z_int (by decide +kernel) (pa_cons (pv 5) pa_nil)) pe_int) pa_nil)))) pss_nil)
      (pss_one (ps_set (i := 5) sc__law_draws.nd rfl (Or.inl rfl) (pe_op op_fdiv (pv 5) pe_int))))))))))
      (pss_one (ps_ret (pe_slice (ksll (K := K)) (pv 3) po_none (po_some (pv 2))))))), ?_⟩
  refine ⟨by decide, fun D hD => ?_⟩
  walk_at "rds"
  refine ⟨a, _, rfl, (same_upd hD).seq hS, fun p hp => ?_⟩
  obtain ⟨cs, ecs, hcl, _⟩ := cutV_map V.int ns (some (st : Int)) none
  rw [ecs]
  have sp : Same H (upd (upd H D (.lst [])) p (.lst (cs.map V.int))) := (same_upd hD).trans (same_upd hp)
  have hpD : p ≠ D := fun e => by rw [e, upd_same] at hp; cases hp
  refine ⟨p, rfl, ⟨_, sq upd_same⟩, ?_⟩
  refine for_it (walk_list (K := K) (a := p) (xs := cs.map V.int)) (Pv := fun i σ H' => ∃ y4 y5 y6 y7 ds, σ = [some (.ref a), some (.int st), some (.int most), some (.ref D), y4, y5, y6, y7] ∧ Same H H' ∧ H' p = some (.lst (cs.map V.int)) ∧ H' D = some (.lst (ds.map V.int)) ∧ (∀ d ∈ ds, 0 ≤ d ∧ d < 1000000000000000000) ∧ ds.length ≤ 20 * i) ⟨none, none, none, none, [], rfl, sp, upd_same, by rw [upd_ne hpD.symm]; exact upd_same, by simp, by simp⟩ (fun i σ H' _ h => by obtain ⟨_, _, _, _, _, _, _, h, _⟩ := h; exact sq h) (fun i x σ H1 H2 hi hp' hy => ?_) (fun σ H1 hp' => ?_)
  · obtain ⟨y4, y5, y6, y7, ds, rfl, sm, hpp, hd, hrg, hl⟩ := hp'
    obtain ⟨rfl, gx⟩ := hy
    rw [List.length_map] at hi
    rw [List.getElem?_map, List.getElem?_eq_getElem hi] at gx
    obtain rfl : V.int cs[i] = x := Option.some.inj gx
    walk_at "rds"
    rw [abs_natAbs]
    have hc0 : 0 ≤ ((cs[i].natAbs : Nat) : Int) := Int.natCast_nonneg _
    generalize ((cs[i].natAbs : Nat) : Int) = c at hc0
    refine ite2 (fun e => ?_) (fun e => ?_)
    · have e : c < (10 : Int) ^ (18 : Int).toNat := of_decide_eq_true e
      have e18 : (10 : Int) ^ (18 : Int).toNat = 10 ^ 18 := rfl
      have hc1 : c < 1000000000000000000 := by omega
      walk_at "rds"
      refine ⟨.inl ⟨rfl, _, sq hd⟩, ?_⟩
      walk_at "rds"
      refine ⟨_, _, _, rfl, rfl, hd, by rw [List.length_map]; exact sz1000' (by omega), ?_⟩
      generalize c * 48271 + 11 = m0
      have hm0 : 0 ≤ m0 % 2147483647 := Int.emod_nonneg _ (by decide)
      have hm1 : m0 % 2147483647 < 2147483647 := Int.emod_lt_of_pos _ (by decide)
      have e1 : upd H2 D (.lst (ds.map V.int ++ [.int c])) D = some (.lst ((ds ++ [c]).map V.int)) := lst_app
      have s1 : Same H (upd H2 D (.lst (ds.map V.int ++ [.int c]))) := same_mut sm hD
      have p1 : (upd H2 D (.lst (ds.map V.int ++ [.int c]))) p = some (.lst (cs.map V.int)) := by rw [upd_ne hpD]; exact hpp
      have r1 := rng_app2 hrg hc0 hc1
      have l1 : (ds ++ [c]).length ≤ 20 * i + 1 := by rw [List.length_append, List.length_singleton]; omega
      generalize upd H2 D (.lst (ds.map V.int ++ [.int c])) = H3 at e1 s1 p1
      generalize ds ++ [c] = ds1 at e1 r1 l1
      walk_at "rds"
      refine ⟨.inl ⟨rfl, _, sq e1⟩, ?_⟩
      walk_at "rds"
      refine ⟨_, _, _, rfl, rfl, e1, by rw [List.length_map]; exact sz1000' (by omega), ?_⟩
      have e2 : upd H3 D (.lst (ds1.map V.int ++ [.int ((m0 % 2147483647 * 16807 + c / 9 + 3) % 2147483647 / 7)])) D = some (.lst ((ds1 ++ [((m0 % 2147483647 * 16807 + c / 9 + 3) % 2147483647 / 7)]).map V.int)) := lst_app
      have s2 : Same H (upd H3 D (.lst (ds1.map V.int ++ [.int ((m0 % 2147483647 * 16807 + c / 9 + 3) % 2147483647 / 7)]))) := same_mut s1 hD
      have p2 : (upd H3 D (.lst (ds1.map V.int ++ [.int ((m0 % 2147483647 * 16807 + c / 9 + 3) % 2147483647 / 7)]))) p = some (.lst (cs.map V.int)) := by rw [upd_ne hpD]; exact p1
      have r2 := rng_app2 (x := ((m0 % 2147483647 * 16807 + c / 9 + 3) % 2147483647 / 7)) r1 (by omega) (by omega)
      have l2 : (ds1 ++ [((m0 % 2147483647 * 16807 + c / 9 + 3) % 2147483647 / 7)]).length ≤ 20 * i + 2 := by rw [List.length_append, List.length_singleton]; omega
      generalize ds1 ++ [((m0 % 2147483647 * 16807 + c / 9 + 3) % 2147483647 / 7)] = ds2 at e2 r2 l2
      walk_at "rds"
      refine ⟨.inl ⟨rfl, _, sq e2⟩, ?_⟩
      walk_at "rds"
      refine ⟨_, _, _, rfl, rfl, e2, by rw [List.length_map]; exact sz1000' (by omega), ?_⟩
      refine ⟨_, _, _, _, ds2 ++ [_], rfl, same_mut s2 hD, by rw [upd_ne hpD]; exact p2, lst_app, rng_app2 r2 (by omega) (by omega), ?_⟩
      rw [List.length_append, List.length_singleton]; omega
    · walk_at "rds"
      refine for_it walk_range (Pv := fun j σ H' => ∃ y4 y6 y7 ds c, σ = [some (.ref a), some (.int st), some (.int most), some (.ref D), y4, some (.int c), y6, y7] ∧ Same H H' ∧ H' p = some (.lst (cs.map V.int)) ∧ H' D = some (.lst (ds.map V.int)) ∧ (∀ d ∈ ds, 0 ≤ d ∧ d < 1000000000000000000) ∧ ds.length ≤ 20 * i + j ∧ 0 ≤ c) ⟨_, y6, y7, ds, c, rfl, sm, hpp, hd, hrg, by omega, by omega⟩ (fun _ _ _ _ _ => trivial) (fun j x σ H3 H4 hj hp hy => ?_) (fun σ H3 hp => ?_)
      · obtain ⟨z4, z6, z7, ds, c, rfl, sm, hpp, hd, hrg, hl, hc0⟩ := hp
        obtain ⟨rfl, rfl⟩ := hy
        have hj' : j < 20 := hj
        walk_at "rds"
        refine ite2 (fun e => ?_) (fun e => ?_)
        · walk_at "rds"
          refine ⟨.inl ⟨rfl, _, sq hd⟩, ?_⟩
          walk_at "rds"
          refine ⟨_, _, _, rfl, rfl, hd, by rw [List.length_map]; exact sz1000' (by omega), ?_⟩
          walk_at "rds"
          refine ⟨_, _, _, ds ++ [_], _, rfl, same_mut sm hD, by rw [upd_ne hpD]; exact hpp, lst_app, rng_app2 hrg (by omega) (by omega), ?_, by omega⟩
          rw [List.length_append, List.length_singleton]; omega
        · walk_at "rds"
          exact ⟨_, _, _, ds, _, rfl, sm, hpp, hd, hrg, by omega, by omega⟩
      · obtain ⟨z4, z6, z7, ds, c, rfl, sm, hpp, hd, hrg, hl, hc0⟩ := hp
        exact ⟨_, _, _, _, ds, rfl, sm, hpp, hd, hrg, by have : (20 : Int).toNat = 20 := rfl; omega⟩
  · obtain ⟨y4, y5, y6, y7, ds, rfl, sm, hpp, hd, hrg, hl⟩ := hp'
    walk_at "rds"
    refine ⟨D, _, rfl, sq hd, fun r hr => ?_⟩
    obtain ⟨es, ees, hes, hm⟩ := cutV_most ds most
    rw [ees]
    exact q _ r es (sm.trans (same_upd hr)) (same_none sm hr) upd_same (fun d hd => hrg d (hm d hd)) hes
end

/-! ### is_integer -/
/-- no int, told by its type -/
def NoInt (K : PySem.W.Frag) (H : Hp) (v : V) : Prop := ∃ T, TyX K H v (.type T) ∧ (kitB T "int" = some false ∨ (kitB T "int" = some true ∧ kitB T "bool" = some true))
def spInt (K : PySem.W.Frag) : Sp := fun vs H Q _ => ∃ (v : V) (lo hi : Int), vs = [v, .int lo, .int hi] ∧ ((∃ i, v = .int i ∧ Q (.bl (decide (lo ≤ i ∧ i ≤ hi))) H) ∨ (NoInt K H v ∧ Q (.bl false) H))
section
variable {P : Program} {w : World} {K : PySem.W.Frag} {mg : Str → Option Value} {base : Heap}
theorem c_is_integer {C_Tally : Addr} {C_Notary : Addr} {C_Group : Addr} {C_BadGroup : Addr} (T : Txt K mg C_Tally C_Notary C_Group C_BadGroup) : Cal P w K mg base 1 "is_integer" (spInt K) [] := by
  refine cal T.d_is_integer sc_is_integer (fun vs H Q E h => ?_) (fun f cdv A outer s H vs Q E hr h => ?_)
  · obtain ⟨v, lo, hi, rfl, _⟩ := h; rfl
  obtain ⟨v, lo, hi, rfl, h⟩ := h
  refine ⟨_, (pss_one (ps_ret (pe_and (pe_callB (kisi (K := K)) (by rfl) T.z_isinstance (by decide +kernel) (pa_cons (pv 0) (pa_cons (pe_bltn (v := .ty "int") (by rfl) T.z_int (by decide +kernel) rfl) pa_nil))) (pe_and (pe_not (pe_callB (kisi (K := K)) (by rfl) T.z_isinstance (by decide +kernel) (pa_cons (pv 0) (pa_cons (pe_bltn (v := .ty "bool") (by rfl) T.z_bool (by decide +kernel) rfl) pa_nil)))) (pe_one (pe_chain op_le op_le (pv 1) (pv 0) (pv 2))))))), ?_⟩
  rcases h with ⟨i, rfl, q⟩ | ⟨⟨T, ty, hk⟩, q⟩
  · walk_at "rds"
    walk_at "isi"
    walk_at "rds"
    walk_at "isi"
    walk_at "rds"
    refine ite2 (fun e => ?_) (fun e => ?_)
    · have e := of_decide_eq_true e
      walk_at "rds"
      have e2 : decide (lo ≤ i ∧ i ≤ hi) = decide (i ≤ hi) := by simp [e]
      rw [e2] at q
      exact q
    · have e : ¬ lo ≤ i := fun z => e (decide_eq_true z)
      have e2 : decide (lo ≤ i ∧ i ≤ hi) = false := by simp [e]
      rw [e2] at q
      exact q
  · walk_at "rds"
    rcases hk with hk | ⟨hk, hb⟩
    · refine ⟨_, .ty _, _, _, false, rfl, .ty _, ty, kit_ty hk, ?_⟩
      walk_at "rds"
      exact q
    · refine ⟨_, .ty _, _, _, true, rfl, .ty _, ty, kit_ty hk, ?_⟩
      walk_at "rds"
      refine ⟨_, .ty _, _, _, true, rfl, .ty _, ty, kit_ty hb, ?_⟩
      walk_at "rds"
      exact q
end

/-! ### the group -/
def gF (n : Int) : List (Str × V) := putF "blocking" (.int (n + 1)) (putF "quorum" (.int (2 * n + 1)) (putF "machines" (.int (3 * n + 1)) (putF "faults" (.int n) [])))
theorem gF_f (n : Int) : (gF n).lookup ("faults" : Str) = some (V.int n) := by rfl
theorem gF_m (n : Int) : (gF n).lookup ("machines" : Str) = some (V.int (3 * n + 1)) := by rfl
theorem gF_q (n : Int) : (gF n).lookup ("quorum" : Str) = some (V.int (2 * n + 1)) := by rfl
theorem gF_b (n : Int) : (gF n).lookup ("blocking" : Str) = some (V.int (n + 1)) := by rfl
/-- a Group stands at p -/
def GrAt (C : Addr) (H : Hp) (p : Addr) (n : Int) : Prop := ∃ dx, H p = some (.ins C dx (gF n))
/-- v is no int from 0 to m -/
def Bad (K : PySem.W.Frag) (H : Hp) (m : Int) (v : V) : Prop := NoInt K H v ∨ ∃ i, v = .int i ∧ ¬ (0 ≤ i ∧ i ≤ m)
def spGInit (K : PySem.W.Frag) (C B : Addr) : Sp := fun vs H Q E => ∃ (p dx : Addr) (v : V), vs = [.ref p, v] ∧ H p = some (.ins C dx []) ∧
  ((∃ n, v = .int n ∧ 0 ≤ n ∧ n ≤ 10 ∧ ∀ (H' : Hp), (∀ b o, H b = some o → b ≠ p → H' b = some o) → GrAt C H' p n → Q .non H') ∨ (Bad K H 10 v ∧ E (.ref B) none H))
section
variable {P : Program} {w : World} {K : PySem.W.Frag} {mg : Str → Option Value} {base : Heap}
theorem k_Group {C_Tally : Addr} {C_Notary : Addr} {C_Group : Addr} {C_BadGroup : Addr} (T : Txt K mg C_Tally C_Notary C_Group C_BadGroup) : MakX P w K mg base 2 "Group" C_Group (spGInit K C_Group C_BadGroup) := by
  have c_is_integer := c_is_integer (P := P) (w := w) (base := base) T
  refine makX T.g_Group T.mk_Group sc_Group____init__ (fun vs H Q E h => ?_) (fun f cdv A outer s H vs Q E hr h => ?_)
  · obtain ⟨p, dx, v, rfl, _⟩ := h; rfl
  obtain ⟨p, dx, v, rfl, hp, h⟩ := h
  refine ⟨_, (pss_cons (ps_if (pt_not (pt_val (pe_c c_is_integer hr (by decide) (by rfl) (pa_cons (pv 1) (pa_cons pe_int (pa_cons (pe_gc (by rfl) T.c_MOST_FAULTS) pa_nil)))))) (pss_one (ps_raise rfl (takes_of rfl rfl rfl rfl) (pmk_ok T.x_BadGroup (by rfl)))) pss_nil)
      (pss_cons (ps_fld (pv 0) (pv 1) rfl)
      (pss_cons (ps_fld (pv 0) (pe_op op_add (pe_op op_mul pe_int (pv 1)) pe_int) rfl)
      (pss_cons (ps_fld (pv 0) (pe_op op_add (pe_op op_mul pe_int (pv 1)) pe_int) rfl)
      (pss_one (ps_fld (pv 0) (pe_op op_add (pv 1) pe_int) rfl)))))), ?_⟩
  walk_at "rds"
  rcases h with ⟨n, rfl, h0, h1, q⟩ | ⟨hb, q⟩
  · refine ⟨.int n, 0, 10, rfl, .inl ⟨n, rfl, ?_⟩⟩
    refine ⟨_, rfl, ?_⟩
    refine ifF (by simp [h0, h1]) ?_
    walk_at "rds"
    refine ⟨p, _, dx, _, rfl, hp, T.cl_Group, T.na_Group_faults, by decide, ?_⟩
    walk_at "rds"
    refine ⟨p, _, dx, _, rfl, upd_same, T.cl_Group, T.na_Group_machines, (by show 1 < 1000; decide), ?_⟩
    walk_at "rds"
    refine ⟨p, _, dx, _, rfl, upd_same, T.cl_Group, T.na_Group_quorum, (by show 2 < 1000; decide), ?_⟩
    walk_at "rds"
    refine ⟨p, _, dx, _, rfl, upd_same, T.cl_Group, T.na_Group_blocking, (by show 3 < 1000; decide), ?_⟩
    exact q _ (fun b o e hb => by rw [upd_ne hb, upd_ne hb, upd_ne hb, upd_ne hb]; exact e) ⟨dx, upd_same⟩
  · rcases hb with hb | ⟨i, rfl, hb⟩
    · refine ⟨v, 0, 10, rfl, .inr ⟨hb, ?_⟩⟩
      refine ⟨_, rfl, ?_⟩
      refine ifT rfl ?_
      exact q
    · refine ⟨.int i, 0, 10, rfl, .inl ⟨i, rfl, ?_⟩⟩
      refine ⟨_, rfl, ?_⟩
      refine ifT (by rw [decide_eq_false hb]; rfl) ?_
      exact q
end

/-! ### the tally -/
/-- all but those in S are as they were -/
def But (S : List Addr) (H H' : Hp) : Prop := ∀ b o, b ∉ S → H b = some o → H' b = some o
theorem But.refl {S : List Addr} {H : Hp} : But S H H := fun _ _ _ h => h
theorem But.trans {S : List Addr} {H H1 H2 : Hp} (a : But S H H1) (b : But S H1 H2) : But S H H2 := fun c o n h => b c o n (a c o n h)
theorem But.mono {S S' : List Addr} {H H1 : Hp} (a : But S H H1) (h : ∀ x ∈ S, x ∈ S') : But S' H H1 := fun c o n e => a c o (fun m => n (h _ m)) e
theorem Same.but {S : List Addr} {H H' : Hp} (s : Same H H') : But S H H' := fun b o _ h => s b o h
theorem but_upd {S : List Addr} {a : Addr} {o : HO} {H : Hp} (h : a ∈ S) : But S H (upd H a o) := fun b u n e => by
  rw [upd_ne (fun z => n (by rw [z]; exact h))]; exact e
theorem but_new {S : List Addr} {a : Addr} {o : HO} {H : Hp} (h : H a = none) : But S H (upd H a o) := Same.but (same_upd h)
/-- none of those in S holds a tuple, an instance -/
def DkS (S : List Addr) (H : Hp) : Prop := ∀ a ∈ S, ∀ o, H a = some o → (∃ kv, o = .dK kv) ∨ ∃ kv, o = .dT kv
theorem But.tp {S : List Addr} {H H' : Hp} (b : But S H H') (d : DkS S H) : Tp H H' := fun a xs e => b _ _ (fun m => by
  rcases d a m _ e with ⟨kv, z⟩ | ⟨kv, z⟩ <;> cases z) e
theorem But.ins {S : List Addr} {H H' : Hp} {a C dx : Addr} {fs : List (Str × V)} (b : But S H H') (d : DkS S H) (e : H a = some (.ins C dx fs)) : H' a = some (.ins C dx fs) := b _ _ (fun m => by
  rcases d a m _ e with ⟨kv, z⟩ | ⟨kv, z⟩ <;> cases z) e
abbrev VD := V × PyData
abbrev Sub := List (Int × VD)
abbrev TD := List (Int × (Addr × Sub))
def subV (s : Sub) : List (Key × V) := kvs Sum.inl (fun x : VD => x.1) s
def topV (t : TD) : List (Key × V) := kvs Sum.inl (fun x : Addr × Sub => V.ref x.1) t
def subs (t : TD) : List Addr := t.map fun e => e.2.1
/-- data that may stand in a tally: plain, no list in it -/
structure OkD (K : PySem.W.Frag) (H : Hp) (x : VD) : Prop where
  dt : Dt K H none x.1 x.2
  nl : noL x.2 = true
  ly : Ly 6 x.2
theorem OkD.tp {K : PySem.W.Frag} {H H' : Hp} {x : VD} (h : OkD K H x) (t : Tp H H') : OkD K H' x := { h with dt := Dt.keep t _ _ h.nl h.dt }
structure SubAt (K : PySem.W.Frag) (H : Hp) (a : Addr) (s : Sub) : Prop where
  at_ : H a = some (.dK (subV s))
  ok : ∀ x ∈ s, OkD K H x.2
  kk : kOk s
  ln : s.length ≤ 1000
theorem SubAt.frame {K : PySem.W.Frag} {S : List Addr} {H H' : Hp} {a : Addr} {s : Sub} (h : SubAt K H a s) (b : But S H H') (d : DkS S H) (n : a ∉ S) : SubAt K H' a s :=
  { h with at_ := b _ _ n h.at_, ok := fun x m => (h.ok x m).tp (b.tp d) }
structure TaAt (C : Addr) (K : PySem.W.Frag) (H : Hp) (p B : Addr) (t : TD) : Prop where
  ins : ∃ dx, H p = some (.ins C dx [("_blocks", .ref B)])
  top : H B = some (.dK (topV t))
  sub : ∀ e ∈ t, SubAt K H e.2.1 e.2.2
  nd : (B :: subs t).Nodup
  kk : kOk t
  ln : t.length ≤ 1000
def taOwn (B : Addr) (t : TD) : List Addr := B :: subs t
theorem TaAt.dk {C : Addr} {K : PySem.W.Frag} {H : Hp} {p B : Addr} {t : TD} (h : TaAt C K H p B t) : DkS (taOwn B t) H := fun a m o e => by
  rcases List.mem_cons.mp m with rfl | m
  · rw [h.top] at e; cases e; exact .inl ⟨_, rfl⟩
  · obtain ⟨x, hx, rfl⟩ := List.mem_map.mp m
    rw [(h.sub x hx).at_] at e; cases e; exact .inl ⟨_, rfl⟩
theorem TaAt.frame {C : Addr} {K : PySem.W.Frag} {S : List Addr} {H H' : Hp} {p B : Addr} {t : TD} (h : TaAt C K H p B t) (b : But S H H') (d : DkS S H) (n : ∀ a ∈ taOwn B t, a ∉ S) : TaAt C K H' p B t :=
  { h with ins := h.ins.imp fun _ e => b.ins d e, top := b _ _ (n _ List.mem_cons_self) h.top
           sub := fun e m => (h.sub e m).frame b d (n _ (List.mem_cons_of_mem _ (List.mem_map_of_mem (f := fun e => e.2.1) m))) }
theorem TaAt.on {C : Addr} {K : PySem.W.Frag} {H H' : Hp} {p B : Addr} {t : TD} (h : TaAt C K H p B t) (s : Same H H') : TaAt C K H' p B t := h.frame (S := []) (Same.but s) (fun _ m => nomatch m) (fun _ _ m => nomatch m)
def subA (t : TD) (e : Int) : Sub := ((gA t e).map (·.2)).getD []
def cnt (t : TD) (e : Int) (d : PyData) : Nat := (subA t e).countP fun x => PyData.eqv x.2.2 d
def tNew (t : TD) (e snd : Int) : Bool := (gA (subA t e) snd).isNone
/-- the sender's block is put at d0, where the epoch is new, else into its dict -/
def tAdd (t : TD) (d0 : Addr) (e snd : Int) (x : VD) : TD := match gA t e with
  | none => t ++ [(e, (d0, [(snd, x)]))]
  | some (d, s) => if (gA s snd).isNone = true then pA t e (d, s ++ [(snd, x)]) else t
theorem gA_of_none {κ α : Type} [DecidableEq κ] {ks : List (κ × α)} {c : κ} {x : α} (h : gA ks c = none) : pA ks c x = ks ++ [(c, x)] := by
  unfold pA
  rw [if_neg (fun z => gA_none.mp h (any_mem.mp z))]
/-- what the first item of a block says -/
def epD : PyData → Int
  | .tuple (.int e :: _) => e
  | _ => 0
def IsBk (d : PyData) : Prop := ∃ e r, d = .tuple (.int e :: r)
theorem IsBk.at_ {K : PySem.W.Frag} {H : Hp} {v : V} {d : PyData} (h : IsBk d) (hd : Dt K H none v d) : ∃ a xs, v = .ref a ∧ TupAt K H a (V.int (epD d) :: xs) := by
  obtain ⟨e, r, rfl⟩ := h
  cases hd with
  | tup ha hx =>
    cases hx with
    | cons h1 h2 =>
      cases h1
      exact ⟨_, _, rfl, ha⟩
def spTInit (C : Addr) : Sp := fun vs H Q _ => ∃ (p dx : Addr), vs = [.ref p] ∧ H p = some (.ins C dx []) ∧
  ∀ (H' : Hp) (B : Addr), (∀ b o, H b = some o → b ≠ p → H' b = some o) → H B = none → H' p = some (.ins C dx [("_blocks", .ref B)]) → H' B = some (.dK []) → Q .non H'
def spTAdd (K : PySem.W.Frag) (C : Addr) : Sp := fun vs H Q _ => ∃ (p B : Addr) (t : TD) (snd : Int) (x : VD), vs = [.ref p, .int snd, x.1] ∧ TaAt C K H p B t ∧ OkD K H x ∧ IsBk x.2 ∧ t.length < 1000 ∧ (∀ e ∈ t, e.2.2.length < 1000) ∧
  ∀ H' d0, H d0 = none → But (taOwn B t) H H' → TaAt C K H' p B (tAdd t d0 (epD x.2) snd x) → Q (.bl (tNew t (epD x.2) snd)) H'
def spTNum (K : PySem.W.Frag) (C : Addr) : Sp := fun vs H Q _ => ∃ (p B : Addr) (t : TD) (x : VD), vs = [.ref p, x.1] ∧ TaAt C K H p B t ∧ OkD K H x ∧ IsBk x.2 ∧ ∀ H', Same H H' → Q (.int (cnt t (epD x.2) x.2 : Nat)) H'
theorem sub_vals (s : Sub) : (subV s).map (·.2) = s.map fun x => x.2.1 := by
  unfold subV kvs
  rw [List.map_map]; rfl
theorem sub_dt {K : PySem.W.Frag} {H : Hp} : ∀ {s : Sub}, (∀ x ∈ s, OkD K H x.2) → DtAll K H none (s.map fun x => x.2.1) (s.map fun x => x.2.2)
  | [], _ => .nil
  | x :: r, h => .cons (h x List.mem_cons_self).dt (sub_dt fun y m => h y (List.mem_cons_of_mem _ m))
theorem cnt_some {t : TD} {e : Int} {d : Addr} {s : Sub} (h : gA t e = some (d, s)) (x : PyData) : cnt t e x = s.countP fun y => PyData.eqv y.2.2 x := by unfold cnt subA; rw [h]; rfl
theorem cnt_none {t : TD} {e : Int} (h : gA t e = none) (x : PyData) : cnt t e x = 0 := by unfold cnt subA; rw [h]; rfl
theorem subs_app (t u : TD) : subs (t ++ u) = subs t ++ subs u := List.map_append
theorem subs_pA {t : TD} {e : Int} {d : Addr} {s s' : Sub} (hk : kOk t) (h : gA t e = some (d, s)) : subs (pA t e (d, s')) = subs t := by
  unfold pA subs
  rw [if_pos (any_mem.mpr (List.mem_map.mpr ⟨_, gA_some h, rfl⟩)), List.map_map]
  refine List.map_congr_left fun x hx => ?_
  show (if x.1 = e then (x.1, (d, s')) else x).2.1 = x.2.1
  by_cases he : x.1 = e
  · rw [if_pos he]
    have := gA_mem hk hx
    rw [he, h] at this
    rw [← Option.some.inj this]
  · rw [if_neg he]
theorem subs_inj0 : ∀ {t : TD}, (subs t).Nodup → ∀ {x y : Int × (Addr × Sub)}, x ∈ t → y ∈ t → x.2.1 = y.2.1 → x = y
  | z :: r, nd, x, y, hx, hy, e => by
    have nd : z.2.1 ∉ subs r ∧ (subs r).Nodup := List.nodup_cons.mp nd
    rcases List.mem_cons.mp hx with rfl | hx'
    · rcases List.mem_cons.mp hy with rfl | hy'
      · rfl
      · exact absurd (by rw [e]; exact List.mem_map_of_mem (f := fun e : Int × (Addr × Sub) => e.2.1) hy') nd.1
    · rcases List.mem_cons.mp hy with rfl | hy'
      · exact absurd (by rw [← e]; exact List.mem_map_of_mem (f := fun e : Int × (Addr × Sub) => e.2.1) hx') nd.1
      · exact subs_inj0 nd.2 hx' hy' e
theorem subs_inj {B : Addr} {t : TD} (nd : (B :: subs t).Nodup) {x y : Int × (Addr × Sub)} (hx : x ∈ t) (hy : y ∈ t) (e : x.2.1 = y.2.1) : x = y := subs_inj0 (List.nodup_cons.mp nd).2 hx hy e
theorem topV_pA {t : TD} {e : Int} {d : Addr} {s s' : Sub} (hk : kOk t) (h : gA t e = some (d, s)) : topV (pA t e (d, s')) = topV t := by
  unfold pA topV kvs
  rw [if_pos (any_mem.mpr (List.mem_map.mpr ⟨_, gA_some h, rfl⟩)), List.map_map]
  refine List.map_congr_left fun x hx => ?_
  show (fun k : Int × (Addr × Sub) => ((Sum.inl k.1 : Key), V.ref k.2.1)) (if x.1 = e then (x.1, (d, s')) else x) = (Sum.inl x.1, V.ref x.2.1)
  by_cases he : x.1 = e
  · rw [if_pos he]
    have := gA_mem hk hx
    rw [he, h] at this
    show ((Sum.inl x.1 : Key), V.ref d) = _
    rw [← Option.some.inj this]
  · rw [if_neg he]
section
variable {P : Program} {w : World} {K : PySem.W.Frag} {mg : Str → Option Value} {base : Heap}
theorem k_Tally {C_Tally : Addr} {C_Notary : Addr} {C_Group : Addr} {C_BadGroup : Addr} (T : Txt K mg C_Tally C_Notary C_Group C_BadGroup) : Mak P w K mg base 1 "Tally" C_Tally (spTInit C_Tally) [] := by
  refine mak T.g_Tally T.mk_Tally sc_Tally____init__ (fun vs H Q E h => ?_) (fun f cdv A outer s H vs Q E hr h => ?_)
  · obtain ⟨p, dx, rfl, _⟩ := h; rfl
  obtain ⟨p, dx, rfl, hp, q⟩ := h
  refine ⟨_, (pss_one (ps_fld (pv 0) pe_dnewK rfl)), ?_⟩
  walk_at "rds"
  intro B hB
  walk_at "rds"
  refine ⟨p, _, dx, _, rfl, (same_upd hB) _ _ hp, T.cl_Tally, T.na_Tally__blocks, by decide, ?_⟩
  have hBp : B ≠ p := (ne_of_none hp hB).symm
  refine q _ B (fun b o e nb => ?_) hB upd_same ?_
  · rw [upd_ne nb, upd_ne (ne_of_none e hB)]; exact e
  · rw [upd_ne hBp]; exact upd_same
theorem m_Tally__add {C_Tally : Addr} {C_Notary : Addr} {C_Group : Addr} {C_BadGroup : Addr} (T : Txt K mg C_Tally C_Notary C_Group C_BadGroup) : Met P w K mg base 1 C_Tally "add" (spTAdd K C_Tally) [] := by
  refine met T.cl_Tally T.me_Tally__add sc_Tally__add (fun vs H Q E h => ?_) (fun f cdv A outer s H vs Q E hr h => ?_)
  · obtain ⟨p, B, t, snd, x, rfl, _⟩ := h; rfl
  obtain ⟨p, B, t, snd, x, rfl, ta, ok, hb, ht, hs, q⟩ := h
  obtain ⟨a, xs, ex, ha⟩ := hb.at_ ok.dt
  rw [ex]
  obtain ⟨dx, g⟩ := ta.ins
  refine ⟨_, (pss_cons (ps_set (i := 3) sc_Tally__add.nd rfl (Or.inl rfl) (pe_dsetd (pe_fld (pv 0) rfl) (pe_ix (kixt (K := K)) (pv 2) pe_int (fun _ _ => rfl)) pe_dnewK ⟨by rfl, by rfl, by rfl, by rfl⟩))
      (pss_cons (ps_if (pt_cmp (pc_din (by exact hu_of hr) (pv 1) (pv 3))) (pss_one (ps_ret pe_bl)) pss_nil)
      (pss_cons (ps_dput (hu_of hr) (pv 3) (pv 1) (pv 2) rfl)
      (pss_one (ps_ret pe_bl))))), ?_⟩
  walk_at "rds"
  refine ⟨p, _, dx, _, _, rfl, g, T.cl_Tally, T.na_Tally__blocks, rfl, ?_⟩
  walk_at "rds"
  refine ⟨.inl ⟨_, .inl ta.top⟩, ?_⟩
  walk_at "rds"
  refine ⟨a, _, 0, _, rfl, rfl, ha.sq, atI_nat (j := 0) rfl, ?_⟩
  walk_at "rds"
  intro d0 hd0
  have s0 := same_upd (o := .dK []) hd0
  have e0 : upd H d0 (.dK []) d0 = some (.dK []) := upd_same
  have ta0 := ta.on s0
  have nB : B ≠ d0 := ne_of_none ta.top hd0
  have nS : ∀ b ∈ subs t, b ≠ d0 := fun b hb => by
    obtain ⟨y, hy, rfl⟩ := List.mem_map.mp hb
    exact ne_of_none (ta.sub y hy).at_ hd0
  have ok0 := ok.tp (Same.tp s0)
  generalize upd H d0 (.dK []) = H0 at s0 e0 ta0 ok0
  refine ⟨_, Sum.inl (epD x.2), ta0.top, rfl, by unfold topV; rw [kvs_len]; exact sz1000' (by omega), fun v hv => ?_, fun hv => ?_⟩
  · unfold topV at hv
    rw [gA_kvs inlI] at hv
    cases gt : gA t (epD x.2) with
    | none => rw [gt] at hv; cases hv
    | some ds =>
      obtain ⟨d, sb⟩ := ds
      rw [gt] at hv
      cases hv
      have hm := gA_some gt
      have hsub := ta0.sub _ hm
      have eN : tNew t (epD x.2) snd = (gA sb snd).isNone := by unfold tNew subA; rw [gt]; rfl
      have eA : ∀ d0, tAdd t d0 (epD x.2) snd x = if (gA sb snd).isNone = true then pA t (epD x.2) (d, sb ++ [(snd, x)]) else t := fun d0 => by unfold tAdd; rw [gt]
      walk_at "rds"
      refine ⟨d, _, rfl, DGet.k (k := Sum.inl snd) hsub.at_, ?_⟩
      unfold subV
      rw [gA_kvs inlI]
      cases gs : gA sb snd with
      | some y =>
        walk_at "rds"
        have q2 := q H0 d0 hd0 (Same.but s0) (by rw [eA, gs]; exact ta0)
        rw [eN, gs] at q2
        exact q2
      | none =>
        walk_at "rds"
        refine ⟨d, _, rfl, DPut.k (k := Sum.inl snd) hsub.at_ (by unfold subV; rw [kvs_len]; have := hs _ hm; exact sz1000' (by show sb.length < 100000; have : sb.length < 1000 := this; omega)), ?_⟩
        have e1 : putK (subV sb) (Sum.inl snd) x.1 = subV (sb ++ [(snd, x)]) := by unfold subV; rw [pA_kvs inlI (fun x : VD => x.1) sb snd x, gA_of_none gs]
        walk_at "rds"
        have dm : d ∈ taOwn B t := List.mem_cons_of_mem _ (List.mem_map_of_mem (f := fun e : Int × (Addr × Sub) => e.2.1) hm)
        have b1 : But [d] H0 (upd H0 d (.dK (subV (sb ++ [(snd, x)])))) := but_upd (by simp)
        have dk1 : DkS [d] H0 := fun c m o e => by
          rw [List.mem_singleton.mp m, hsub.at_] at e
          cases e; exact .inl ⟨_, rfl⟩
        have nBd : B ≠ d := fun z => by
          have := ta.nd
          rw [List.nodup_cons] at this
          exact this.1 (by rw [z]; exact List.mem_map_of_mem (f := fun e : Int × (Addr × Sub) => e.2.1) hm)
        have q2 := q (upd H0 d (.dK (subV (sb ++ [(snd, x)])))) d0 hd0 ((Same.but s0).trans (but_upd dm)) ?_
        · rw [eN, gs] at q2
          rw [← ex, e1]
          exact q2
        rw [eA, gs, if_pos (show (none : Option VD).isNone = true from rfl)]
        have e2 := topV_pA (s' := sb ++ [(snd, x)]) ta.kk gt
        have nd := ta.nd
        refine ⟨ta0.ins.imp fun _ e => b1.ins dk1 e, by rw [e2]; exact b1 _ _ (by simpa using nBd) ta0.top, fun e m => ?_, by rw [subs_pA ta.kk gt]; exact ta.nd, pA_ok _ _ ta.kk, ?_⟩
        · rcases pA_mem m with rfl | ⟨m, ne⟩
          · refine ⟨upd_same, fun y hy => ?_, ?_, ?_⟩
            · rcases List.mem_append.mp hy with hy | hy
              · exact (hsub.ok y hy).tp (b1.tp dk1)
              · rw [List.mem_singleton.mp hy]; exact ok0.tp (b1.tp dk1)
            · have := pA_ok snd x hsub.kk
              rw [gA_of_none gs] at this
              exact this
            · have := hs _ hm
              rw [List.length_append, List.length_singleton]
              have : sb.length < 1000 := this
              omega
          · refine (ta0.sub e m).frame b1 dk1 fun z => ?_
            have z : e.2.1 = d := by simpa using z
            have e1 := subs_inj nd m hm (by exact z)
            exact ne (by rw [e1])
        · unfold pA
          rw [if_pos (any_mem.mpr (List.mem_map.mpr ⟨_, hm, rfl⟩)), List.length_map]
          exact ta.ln
  · unfold topV at hv
    rw [gA_kvs inlI] at hv
    have gt : gA t (epD x.2) = none := by
      cases g : gA t (epD x.2) with
      | none => rfl
      | some y => rw [g] at hv; cases hv
    have eN : tNew t (epD x.2) snd = true := by unfold tNew subA; rw [gt]; rfl
    have eA : tAdd t d0 (epD x.2) snd x = t ++ [(epD x.2, (d0, [(snd, x)]))] := by unfold tAdd; rw [gt]
    have e1 : putK (topV t) (Sum.inl (epD x.2)) (V.ref d0) = topV (t ++ [(epD x.2, (d0, [(snd, x)]))]) := by
      unfold topV
      rw [← gA_of_none gt]
      exact pA_kvs inlI (fun y : Addr × Sub => V.ref y.1) t (epD x.2) (d0, [(snd, x)])
    have b1 : But [B] H0 (upd H0 B (.dK (putK (topV t) (Sum.inl (epD x.2)) (.ref d0)))) := but_upd (by simp)
    have dk1 : DkS [B] H0 := fun c m o e => by
      rw [List.mem_singleton.mp m, ta0.top] at e
      cases e; exact .inl ⟨_, rfl⟩
    have e2 := b1 _ _ (by simpa using nB.symm) e0
    have gB : upd H0 B (.dK (putK (topV t) (Sum.inl (epD x.2)) (.ref d0))) B = some (.dK (topV (t ++ [(epD x.2, (d0, [(snd, x)]))]))) := by rw [upd_same, e1]
    have ok1 := ok0.tp (b1.tp dk1)
    have nd := ta.nd
    rw [List.nodup_cons] at nd
    have sub1 : ∀ e ∈ t, SubAt K (upd H0 B (.dK (putK (topV t) (Sum.inl (epD x.2)) (.ref d0)))) e.2.1 e.2.2 := fun e m => (ta0.sub e m).frame b1 dk1 fun z => nd.1 (by
      have z : e.2.1 = B := by simpa using z
      rw [← z]; exact List.mem_map_of_mem (f := fun e : Int × (Addr × Sub) => e.2.1) m)
    have ins1 := ta0.ins.imp fun _ e => b1.ins dk1 e
    have bt1 : But (taOwn B t) H (upd H0 B (.dK (putK (topV t) (Sum.inl (epD x.2)) (.ref d0)))) := (Same.but s0).trans (but_upd List.mem_cons_self)
    generalize upd H0 B (.dK (putK (topV t) (Sum.inl (epD x.2)) (.ref d0))) = H1 at b1 e2 gB ok1 sub1 ins1 bt1
    walk_at "rds"
    refine ⟨d0, _, rfl, DGet.k (k := Sum.inl snd) e2, ?_⟩
    walk_at "rds"
    refine ⟨d0, _, rfl, DPut.k (k := Sum.inl snd) e2 (by decide), ?_⟩
    walk_at "rds"
    have b2 : But [d0] H1 (upd H1 d0 (.dK (putK [] (Sum.inl snd) x.1))) := but_upd (by simp)
    have dk2 : DkS [d0] H1 := fun c m o e => by
      rw [List.mem_singleton.mp m, e2] at e
      cases e; exact .inl ⟨_, rfl⟩
    have q2 := q (upd H1 d0 (.dK (putK [] (Sum.inl snd) x.1))) d0 hd0 (fun b o n e => b2 _ _ (fun z => by rw [List.mem_singleton.mp z, hd0] at e; cases e) (bt1 b o n e)) ?_
    · rw [eN] at q2
      rw [← ex]
      exact q2
    rw [eA]
    have nd0 : d0 ∉ subs t := fun m => nS _ m rfl
    refine ⟨ins1.imp fun _ e => b2.ins dk2 e, b2 _ _ (by simpa using nB) gB, fun e m => ?_, ?_, ?_, by rw [List.length_append, List.length_singleton]; omega⟩
    · rcases List.mem_append.mp m with m | m
      · exact (sub1 e m).frame b2 dk2 fun z => nS _ (List.mem_map_of_mem (f := fun e : Int × (Addr × Sub) => e.2.1) m) (by simpa using z)
      · rw [List.mem_singleton.mp m]
        refine ⟨upd_same, fun y hy => ?_, (by simp [kOk]), by show 1 ≤ 1000; decide⟩
        rw [List.mem_singleton.mp hy]
        exact ok1.tp (b2.tp dk2)
    · rw [subs_app, List.nodup_cons]
      refine ⟨fun m => ?_, ?_⟩
      · rcases List.mem_append.mp m with m | m
        · exact nd.1 m
        · exact nB (List.mem_singleton.mp m)
      · rw [List.nodup_append]
        refine ⟨nd.2, (show [d0].Nodup by simp), fun a ha b hb z => nd0 ?_⟩
        have hb : b = d0 := List.mem_singleton.mp hb
        rw [← hb, ← z]; exact ha
    · have := pA_ok (epD x.2) (d0, [(snd, x)]) ta.kk
      rw [gA_of_none gt] at this
      exact this
theorem m_Tally__number {C_Tally : Addr} {C_Notary : Addr} {C_Group : Addr} {C_BadGroup : Addr} (T : Txt K mg C_Tally C_Notary C_Group C_BadGroup) : Met P w K mg base 1 C_Tally "number" (spTNum K C_Tally) [] := by
  refine met T.cl_Tally T.me_Tally__number sc_Tally__number (fun vs H Q E h => ?_) (fun f cdv A outer s H vs Q E hr h => ?_)
  · obtain ⟨p, B, t, x, rfl, _⟩ := h; rfl
  obtain ⟨p, B, t, x, rfl, ta, ok, hb, q⟩ := h
  obtain ⟨a, xs, ex, ha⟩ := hb.at_ ok.dt
  rw [ex]
  obtain ⟨dx, g⟩ := ta.ins
  refine ⟨_, (pss_cons (ps_set (i := 2) sc_Tally__number.nd rfl (Or.inl rfl) (pe_dget2 (hu1 hr) (pe_fld (pv 0) rfl) (pe_ix (kixt (K := K)) (pv 1) pe_int (fun _ _ => rfl)) pe_dnewK ⟨by rfl, by rfl, by rfl, by rfl⟩))
      (pss_one (ps_ret (pe_bm PySem.F.plainAttrs_list PySem.F.slot_list_count PySem.F.type_list_count (mt_lcountD (by exact hu65 hr)) (pe_callTy (call_listVals rfl) (by rfl) T.z_list (by decide +kernel) (pa_cons (pe_bm0 PySem.F.plainAttrs_dict PySem.F.slot_dict_values PySem.F.type_dict_values mt_dvals (pv 2)) pa_nil)) (pa_cons (pv 1) pa_nil))))), ?_⟩
  walk_at "rds"
  refine ⟨p, _, dx, _, _, rfl, g, T.cl_Tally, T.na_Tally__blocks, rfl, ?_⟩
  walk_at "rds"
  refine ⟨.inl ⟨_, .inl ta.top⟩, ?_⟩
  walk_at "rds"
  refine ⟨a, _, 0, _, rfl, rfl, ha.sq, atI_nat (j := 0) rfl, ?_⟩
  walk_at "rds"
  intro d0 hd0
  have s0 := same_upd (o := .dK []) hd0
  have e0 : upd H d0 (.dK []) d0 = some (.dK (subV [])) := upd_same
  have ta0 := ta.on s0
  have ok0 := ok.tp (Same.tp s0)
  generalize upd H d0 (.dK []) = H0 at s0 e0 ta0 ok0
  have fin : ∀ (d : Addr) (sb : Sub), H0 d = some (.dK (subV sb)) → (∀ y ∈ sb, OkD K H0 y.2) → cnt t (epD x.2) x.2 = sb.countP (fun y => PyData.eqv y.2.2 x.2) →
      ∀ pv l, H0 pv = none → upd H0 pv (viewO "dict_values" pv d) l = none → rCountD K (.ref l) [x.1] (upd (upd H0 pv (viewO "dict_values" pv d)) l (.lst ((subV sb).map (·.2)))) Q := fun d sb hd hok hc pv l hpv hl => by
    have s1 := (same_upd (o := viewO "dict_values" pv d) hpv).trans (same_upd (o := .lst ((subV sb).map (·.2))) hl)
    have okS : ∀ y ∈ sb, OkD K (upd (upd H0 pv (viewO "dict_values" pv d)) l (.lst ((subV sb).map (·.2)))) y.2 := fun y m => (hok y m).tp (Same.tp s1)
    refine ⟨l, x.1, x.2, sb.map fun y => y.2.2, rfl, rfl, ?_, Dt.dp _ _ (ok0.tp (Same.tp s1)).dt, (shpL ((ly_lst (k := 6) fun d hd => ?_).mono (by decide))).1, (shpL (ok0.ly.mono (by decide))).1, ?_⟩
    · refine .lst (sq (by rw [upd_same, sub_vals])) (DtAll.dp _ _ (sub_dt okS))
    · obtain ⟨y, hy, rfl⟩ := List.mem_map.mp hd
      exact (hok y hy).ly
    · rw [List.countP_map]
      have q2 := q _ (s0.trans s1)
      rw [hc] at q2
      exact q2
  refine ⟨_, DGet.k (k := Sum.inl (epD x.2)) ta0.top, ?_⟩
  unfold topV
  rw [gA_kvs inlI]
  cases gt : gA t (epD x.2) with
  | none =>
    walk_at "rds"
    refine ⟨.inr (.inr (.inl ⟨rfl, .inl ⟨_, e0⟩⟩)), ?_⟩
    refine ⟨d0, _, rfl, rfl, e0, fun pv hpv => ?_⟩
    walk_at "rds"
    refine ⟨pv, d0, _, rfl, upd_same, (same_upd hpv) _ _ e0, fun l hl => ?_⟩
    walk_at "rds"
    refine ⟨.inl ⟨rfl, _, sq upd_same⟩, ?_⟩
    walk_at "rds"
    rw [← ex]
    exact fin d0 [] e0 (fun _ m => nomatch m) (cnt_none gt _) pv l hpv hl
  | some ds =>
    obtain ⟨d, sb⟩ := ds
    have hsub := ta0.sub _ (gA_some gt)
    walk_at "rds"
    refine ⟨.inr (.inr (.inl ⟨rfl, .inl ⟨_, hsub.at_⟩⟩)), ?_⟩
    refine ⟨d, _, rfl, rfl, hsub.at_, fun pv hpv => ?_⟩
    walk_at "rds"
    refine ⟨pv, d, _, rfl, upd_same, (same_upd hpv) _ _ hsub.at_, fun l hl => ?_⟩
    walk_at "rds"
    refine ⟨.inl ⟨rfl, _, sq upd_same⟩, ?_⟩
    walk_at "rds"
    rw [← ex]
    exact fin d sb hsub.at_ hsub.ok (cnt_some gt _) pv l hpv hl
end

/-! ### the notary -/
structure NS where
  g : Addr
  f : Nat
  pv : Addr
  pr : Addr
  bv : Addr
  br : Addr
  sp : Addr
  nt : Addr
  v : TD
  r : TD
  s : Sub
  n : Sub
  fg : Int
def NS.own (x : NS) : List Addr := x.sp :: x.nt :: (taOwn x.bv x.v ++ taOwn x.br x.r)
def noF (x : NS) : List (Str × V) := putF "_forgotten" (.int x.fg) (putF "_notarized" (.ref x.nt) (putF "_supported" (.ref x.sp) (putF "_readies" (.ref x.pr) (putF "_votes" (.ref x.pv) (putF "_group" (.ref x.g) [])))))
/-- Cn, Ct, Cg: the classes Notary, Tally, Group -/
structure NoAt (Cn Ct Cg : Addr) (K : PySem.W.Frag) (H : Hp) (p : Addr) (x : NS) : Prop where
  ins : ∃ dx, H p = some (.ins Cn dx (noF x))
  gr : GrAt Cg H x.g x.f
  ta : TaAt Ct K H x.pv x.bv x.v
  tr : TaAt Ct K H x.pr x.br x.r
  ss : SubAt K H x.sp x.s
  sn : SubAt K H x.nt x.n
  nd : x.own.Nodup
theorem NoAt.dk {Cn Ct Cg : Addr} {K : PySem.W.Frag} {H : Hp} {p : Addr} {x : NS} (h : NoAt Cn Ct Cg K H p x) : DkS x.own H := fun a m o e => by
  rcases List.mem_cons.mp m with rfl | m
  · rw [h.ss.at_] at e; cases e; exact .inl ⟨_, rfl⟩
  rcases List.mem_cons.mp m with rfl | m
  · rw [h.sn.at_] at e; cases e; exact .inl ⟨_, rfl⟩
  rcases List.mem_append.mp m with m | m
  · exact h.ta.dk a m o e
  · exact h.tr.dk a m o e
theorem NoAt.frame {Cn Ct Cg : Addr} {K : PySem.W.Frag} {S : List Addr} {H H' : Hp} {p : Addr} {x : NS} (h : NoAt Cn Ct Cg K H p x) (b : But S H H') (d : DkS S H) (n : ∀ a ∈ x.own, a ∉ S) : NoAt Cn Ct Cg K H' p x :=
  { h with
    ins := h.ins.imp fun _ e => b.ins d e
    gr := h.gr.imp fun _ e => b.ins d e
    ta := h.ta.frame b d fun a m => n a (List.mem_cons_of_mem _ (List.mem_cons_of_mem _ (List.mem_append_left _ m)))
    tr := h.tr.frame b d fun a m => n a (List.mem_cons_of_mem _ (List.mem_cons_of_mem _ (List.mem_append_right _ m)))
    ss := h.ss.frame b d (n _ List.mem_cons_self)
    sn := h.sn.frame b d (n _ (List.mem_cons_of_mem _ List.mem_cons_self)) }
theorem NoAt.on {Cn Ct Cg : Addr} {K : PySem.W.Frag} {H H' : Hp} {p : Addr} {x : NS} (h : NoAt Cn Ct Cg K H p x) (s : Same H H') : NoAt Cn Ct Cg K H' p x := h.frame (S := []) (Same.but s) (fun _ m => nomatch m) (fun _ _ m => nomatch m)
/-- d.setdefault -/
def setD (s : Sub) (e : Int) (x : VD) : Sub := if (gA s e).isNone = true then s ++ [(e, x)] else s
/-- what judging does -/
def NS.judge (x : NS) (b : VD) : NS :=
  { x with
    s := if cnt x.v (epD b.2) b.2 ≥ 2 * x.f + 1 ∨ cnt x.r (epD b.2) b.2 ≥ x.f + 1 then setD x.s (epD b.2) b else x.s
    n := if cnt x.r (epD b.2) b.2 ≥ 2 * x.f + 1 then setD x.n (epD b.2) b else x.n }
def NS.vote (x : NS) (d0 : Addr) (snd : Int) (b : VD) : NS := if x.fg < epD b.2 ∧ tNew x.v (epD b.2) snd = true then { x with v := tAdd x.v d0 (epD b.2) snd b }.judge b else x
def NS.ready (x : NS) (d0 : Addr) (snd : Int) (b : VD) : NS := if x.fg < epD b.2 ∧ tNew x.r (epD b.2) snd = true then { x with r := tAdd x.r d0 (epD b.2) snd b }.judge b else x
/-- small enough -/
structure NS.few (x : NS) (m : Nat) : Prop where
  v : x.v.length ≤ m
  r : x.r.length ≤ m
  vs : ∀ e ∈ x.v, e.2.2.length ≤ m
  rs : ∀ e ∈ x.r, e.2.2.length ≤ m
  s : x.s.length ≤ m
  n : x.n.length ≤ m
def spNoInit (Cn Ct Cg : Addr) (K : PySem.W.Frag) : Sp := fun vs H Q _ => ∃ (p dx g : Addr) (f : Nat), vs = [.ref p, .ref g] ∧ H p = some (.ins Cn dx []) ∧ GrAt Cg H g f ∧ g ≠ p ∧
  ∀ (H' : Hp) (x : NS), (∀ b o, H b = some o → b ≠ p → H' b = some o) → (∀ a ∈ x.own, H a = none) → NoAt Cn Ct Cg K H' p x → x.v = [] → x.r = [] → x.s = [] → x.n = [] → x.fg = 0 → x.f = f → x.g = g → Q .non H'
/-- votes(block), readies(block) -/
def spNoNum (Cn Ct Cg : Addr) (K : PySem.W.Frag) (t : NS → TD) : Sp := fun vs H Q _ => ∃ (p : Addr) (x : NS) (b : VD), vs = [.ref p, b.1] ∧ NoAt Cn Ct Cg K H p x ∧ OkD K H b ∧ IsBk b.2 ∧ ∀ H', Same H H' → Q (.int (cnt (t x) (epD b.2) b.2 : Nat)) H'
/-- supported(epoch), notarized(epoch) -/
def spNoGet (Cn Ct Cg : Addr) (K : PySem.W.Frag) (t : NS → Sub) : Sp := fun vs H Q _ => ∃ (p : Addr) (x : NS) (e : Int), vs = [.ref p, .int e] ∧ NoAt Cn Ct Cg K H p x ∧ Q (((gA (t x) e).map (·.1)).getD .non) H
def spNoJudge (Cn Ct Cg : Addr) (K : PySem.W.Frag) : Sp := fun vs H Q _ => ∃ (p : Addr) (x : NS) (b : VD), vs = [.ref p, b.1] ∧ NoAt Cn Ct Cg K H p x ∧ OkD K H b ∧ IsBk b.2 ∧ x.s.length < 1000 ∧ x.n.length < 1000 ∧
  ∀ H', But x.own H H' → NoAt Cn Ct Cg K H' p (x.judge b) → Q .non H'
def spNoAdd (Cn Ct Cg : Addr) (K : PySem.W.Frag) (up : NS → Addr → Int → VD → NS) (t : NS → TD) : Sp := fun vs H Q _ => ∃ (p : Addr) (x : NS) (snd : Int) (b : VD), vs = [.ref p, .int snd, b.1] ∧ NoAt Cn Ct Cg K H p x ∧ OkD K H b ∧ IsBk b.2 ∧ x.few 900 ∧
  ∀ H' d0, (∀ a ∈ (up x d0 snd b).own, a ∈ x.own ∨ H a = none) → But x.own H H' → NoAt Cn Ct Cg K H' p (up x d0 snd b) → Q (.bl (decide (x.fg < epD b.2) && tNew (t x) (epD b.2) snd)) H'
theorem SubAt.put {K : PySem.W.Frag} {H : Hp} {a : Addr} {s : Sub} {e : Int} {x : VD} (h : SubAt K H a s) (ok : OkD K H x) (ln : s.length < 1000) (g : gA s e = none) : SubAt K (upd H a (.dK (putK (subV s) (Sum.inl e) x.1))) a (s ++ [(e, x)]) := by
  have dk : DkS [a] H := fun c m o e => by
    rw [List.mem_singleton.mp m, h.at_] at e
    cases e; exact .inl ⟨_, rfl⟩
  have b : But [a] H (upd H a (.dK (putK (subV s) (Sum.inl e) x.1))) := but_upd (by simp)
  refine ⟨?_, fun y m => ?_, ?_, by rw [List.length_append, List.length_singleton]; omega⟩
  · rw [upd_same]
    unfold subV
    rw [pA_kvs inlI (fun x : VD => x.1) s e x, gA_of_none g]
  · rcases List.mem_append.mp m with m | m
    · exact (h.ok y m).tp (b.tp dk)
    · rw [List.mem_singleton.mp m]; exact ok.tp (b.tp dk)
  · have := pA_ok e x h.kk
    rw [gA_of_none g] at this
    exact this
theorem NoAt.putS {Cn Ct Cg : Addr} {K : PySem.W.Frag} {H : Hp} {p : Addr} {x : NS} {e : Int} {b : VD} (h : NoAt Cn Ct Cg K H p x) (ok : OkD K H b) (ln : x.s.length < 1000) (g : gA x.s e = none) : NoAt Cn Ct Cg K (upd H x.sp (.dK (putK (subV x.s) (Sum.inl e) b.1))) p { x with s := x.s ++ [(e, b)] } := by
  have dk : DkS [x.sp] H := fun c m o e => by
    rw [List.mem_singleton.mp m, h.ss.at_] at e
    cases e; exact .inl ⟨_, rfl⟩
  have bt : But [x.sp] H (upd H x.sp (.dK (putK (subV x.s) (Sum.inl e) b.1))) := but_upd (by simp)
  have nd := List.nodup_cons.mp h.nd
  have ne : ∀ a, a ∈ x.nt :: (taOwn x.bv x.v ++ taOwn x.br x.r) → a ∉ [x.sp] := fun a m z => nd.1 (by rw [← List.mem_singleton.mp z]; exact m)
  exact { h with
    ins := h.ins.imp fun _ e => bt.ins dk e
    gr := h.gr.imp fun _ e => bt.ins dk e
    ta := h.ta.frame bt dk fun a m => ne a (List.mem_cons_of_mem _ (List.mem_append_left _ m))
    tr := h.tr.frame bt dk fun a m => ne a (List.mem_cons_of_mem _ (List.mem_append_right _ m))
    ss := h.ss.put ok ln g
    sn := h.sn.frame bt dk (ne _ List.mem_cons_self) }
theorem NoAt.putN {Cn Ct Cg : Addr} {K : PySem.W.Frag} {H : Hp} {p : Addr} {x : NS} {e : Int} {b : VD} (h : NoAt Cn Ct Cg K H p x) (ok : OkD K H b) (ln : x.n.length < 1000) (g : gA x.n e = none) : NoAt Cn Ct Cg K (upd H x.nt (.dK (putK (subV x.n) (Sum.inl e) b.1))) p { x with n := x.n ++ [(e, b)] } := by
  have dk : DkS [x.nt] H := fun c m o e => by
    rw [List.mem_singleton.mp m, h.sn.at_] at e
    cases e; exact .inl ⟨_, rfl⟩
  have bt : But [x.nt] H (upd H x.nt (.dK (putK (subV x.n) (Sum.inl e) b.1))) := but_upd (by simp)
  have nd := List.nodup_cons.mp h.nd
  have nd2 := List.nodup_cons.mp nd.2
  have ne : ∀ a, a ∈ (taOwn x.bv x.v ++ taOwn x.br x.r) → a ∉ [x.nt] := fun a m z => nd2.1 (by rw [← List.mem_singleton.mp z]; exact m)
  exact { h with
    ins := h.ins.imp fun _ e => bt.ins dk e
    gr := h.gr.imp fun _ e => bt.ins dk e
    ta := h.ta.frame bt dk fun a m => ne a (List.mem_append_left _ m)
    tr := h.tr.frame bt dk fun a m => ne a (List.mem_append_right _ m)
    ss := h.ss.frame bt dk (fun z => nd.1 (by rw [List.mem_singleton.mp z]; exact List.mem_cons_self))
    sn := h.sn.put ok ln g }
theorem taOwn_add {B d0 : Addr} {t : TD} {e snd : Int} {x : VD} (hk : kOk t) : ∀ a ∈ taOwn B (tAdd t d0 e snd x), a ∈ taOwn B t ∨ a = d0 := fun a m => by
  rcases List.mem_cons.mp m with rfl | m
  · exact .inl List.mem_cons_self
  unfold tAdd at m
  split at m
  · rw [subs_app] at m
    rcases List.mem_append.mp m with m | m
    · exact .inl (List.mem_cons_of_mem _ m)
    · exact .inr (List.mem_singleton.mp m)
  · split at m
    · rename_i h1 _
      rw [subs_pA hk h1] at m
      exact .inl (List.mem_cons_of_mem _ m)
    · exact .inl (List.mem_cons_of_mem _ m)
theorem tAdd_old {d0 : Addr} {t : TD} {e snd : Int} {x : VD} (h : tNew t e snd = false) : tAdd t d0 e snd x = t := by
  unfold tNew subA at h
  unfold tAdd
  cases g : gA t e with
  | none => rw [g] at h; cases h
  | some ds =>
    obtain ⟨d, s⟩ := ds
    rw [g] at h
    have h : (gA s snd).isNone = false := h
    show (if (gA s snd).isNone = true then _ else t) = t
    rw [if_neg (by rw [h]; decide)]
theorem NoAt.some_ {Cn Ct Cg : Addr} {K : PySem.W.Frag} {H : Hp} {p : Addr} {x : NS} (h : NoAt Cn Ct Cg K H p x) {a : Addr} (m : a ∈ x.own) : ∃ o, H a = some o := by
  rcases List.mem_cons.mp m with rfl | m
  · exact ⟨_, h.ss.at_⟩
  rcases List.mem_cons.mp m with rfl | m
  · exact ⟨_, h.sn.at_⟩
  have tk : ∀ {p B : Addr} {t : TD}, TaAt Ct K H p B t → a ∈ taOwn B t → ∃ o, H a = some o := fun ta m => by
    rcases List.mem_cons.mp m with rfl | m
    · exact ⟨_, ta.top⟩
    · obtain ⟨y, hy, rfl⟩ := List.mem_map.mp m
      exact ⟨_, (ta.sub y hy).at_⟩
  rcases List.mem_append.mp m with m | m
  · exact tk h.ta m
  · exact tk h.tr m
theorem nd_parts {sp nt : Addr} {u v : List Addr} (h : (sp :: nt :: (u ++ v)).Nodup) : sp ≠ nt ∧ (∀ a ∈ u, a ≠ sp ∧ a ≠ nt ∧ a ∉ v) ∧ (∀ a ∈ v, a ≠ sp ∧ a ≠ nt ∧ a ∉ u) ∧ u.Nodup ∧ v.Nodup := by
  have h1 := List.nodup_cons.mp h
  have h2 := List.nodup_cons.mp h1.2
  have h3 := List.nodup_append.mp h2.2
  refine ⟨fun z => h1.1 (by rw [z]; exact List.mem_cons_self), fun a m => ⟨fun z => h1.1 (by rw [← z]; exact List.mem_cons_of_mem _ (List.mem_append_left _ m)), fun z => h2.1 (by rw [← z]; exact List.mem_append_left _ m), fun m2 => h3.2.2 a m a m2 rfl⟩,
    fun a m => ⟨fun z => h1.1 (by rw [← z]; exact List.mem_cons_of_mem _ (List.mem_append_right _ m)), fun z => h2.1 (by rw [← z]; exact List.mem_append_right _ m), fun m2 => h3.2.2 a m2 a m rfl⟩, h3.1, h3.2.1⟩
theorem nd_mk {sp nt : Addr} {u v : List Addr} (h1 : sp ≠ nt) (h2 : ∀ a ∈ u, a ≠ sp ∧ a ≠ nt ∧ a ∉ v) (h3 : ∀ a ∈ v, a ≠ sp ∧ a ≠ nt) (hu : u.Nodup) (hv : v.Nodup) : (sp :: nt :: (u ++ v)).Nodup := by
  rw [List.nodup_cons, List.nodup_cons, List.nodup_append]
  refine ⟨fun m => ?_, fun m => ?_, hu, hv, fun a ha b hb z => (h2 a ha).2.2 (by rw [z]; exact hb)⟩
  · rcases List.mem_cons.mp m with z | m
    · exact h1 z
    rcases List.mem_append.mp m with m | m
    · exact (h2 _ m).1 rfl
    · exact (h3 _ m).1 rfl
  · rcases List.mem_append.mp m with m | m
    · exact (h2 _ m).2.1 rfl
    · exact (h3 _ m).2 rfl
theorem NoAt.newV {Cn Ct Cg : Addr} {K : PySem.W.Frag} {H H1 : Hp} {p d0 : Addr} {x : NS} {e snd : Int} {b : VD} (h : NoAt Cn Ct Cg K H p x) (h0 : H d0 = none) (bt : But (taOwn x.bv x.v) H H1) (ta : TaAt Ct K H1 x.pv x.bv (tAdd x.v d0 e snd b)) : NoAt Cn Ct Cg K H1 p { x with v := tAdd x.v d0 e snd b } := by
  have dk := h.ta.dk
  obtain ⟨n1, n2, n3, n4, n5⟩ := nd_parts h.nd
  have n0 : ∀ a ∈ x.own, a ≠ d0 := fun a m z => by
    obtain ⟨o, e⟩ := h.some_ m
    rw [z, h0] at e; cases e
  exact { h with
    ins := h.ins.imp fun _ e => bt.ins dk e
    gr := h.gr.imp fun _ e => bt.ins dk e
    ta := ta
    tr := h.tr.frame bt dk fun a m => (n3 a m).2.2
    ss := h.ss.frame bt dk fun z => (n2 _ z).1 rfl
    sn := h.sn.frame bt dk fun z => (n2 _ z).2.1 rfl
    nd := nd_mk n1 (fun a m => by
      rcases taOwn_add h.ta.kk a m with m | rfl
      · exact n2 a m
      · exact ⟨fun z => n0 _ List.mem_cons_self z.symm, fun z => n0 _ (List.mem_cons_of_mem _ List.mem_cons_self) z.symm, fun z => n0 _ (List.mem_cons_of_mem _ (List.mem_cons_of_mem _ (List.mem_append_right _ z))) rfl⟩) (fun a m => ⟨(n3 a m).1, (n3 a m).2.1⟩) ta.nd n5 }
theorem NoAt.newR {Cn Ct Cg : Addr} {K : PySem.W.Frag} {H H1 : Hp} {p d0 : Addr} {x : NS} {e snd : Int} {b : VD} (h : NoAt Cn Ct Cg K H p x) (h0 : H d0 = none) (bt : But (taOwn x.br x.r) H H1) (tr : TaAt Ct K H1 x.pr x.br (tAdd x.r d0 e snd b)) : NoAt Cn Ct Cg K H1 p { x with r := tAdd x.r d0 e snd b } := by
  have dk := h.tr.dk
  obtain ⟨n1, n2, n3, n4, n5⟩ := nd_parts h.nd
  have n0 : ∀ a ∈ x.own, a ≠ d0 := fun a m z => by
    obtain ⟨o, e⟩ := h.some_ m
    rw [z, h0] at e; cases e
  exact { h with
    ins := h.ins.imp fun _ e => bt.ins dk e
    gr := h.gr.imp fun _ e => bt.ins dk e
    tr := tr
    ta := h.ta.frame bt dk fun a m => (n2 a m).2.2
    ss := h.ss.frame bt dk fun z => (n3 _ z).1 rfl
    sn := h.sn.frame bt dk fun z => (n3 _ z).2.1 rfl
    nd := nd_mk n1 (fun a m => ⟨(n2 a m).1, (n2 a m).2.1, fun z => by
      rcases taOwn_add h.tr.kk a z with z | rfl
      · exact (n2 a m).2.2 z
      · exact n0 _ (List.mem_cons_of_mem _ (List.mem_cons_of_mem _ (List.mem_append_left _ m))) rfl⟩) (fun a m => by
      rcases taOwn_add h.tr.kk a m with m | rfl
      · exact ⟨(n3 a m).1, (n3 a m).2.1⟩
      · exact ⟨fun z => n0 _ List.mem_cons_self z.symm, fun z => n0 _ (List.mem_cons_of_mem _ List.mem_cons_self) z.symm⟩) n4 tr.nd }
theorem own_judge (x : NS) (b : VD) : (x.judge b).own = x.own := rfl
/-- what stands while an instance at p is filled: L is new -/
structure KF (p : Addr) (H H' : Hp) (L : List (Addr × HO)) : Prop where
  k : ∀ b o, H b = some o → b ≠ p → H' b = some o
  pp : ∃ o, H' p = some o
  at_ : ∀ e ∈ L, H' e.1 = some e.2 ∧ e.1 ≠ p ∧ H e.1 = none
  nd : (L.map (·.1)).Nodup
theorem KF.on {p : Addr} {H H1 H2 : Hp} {L : List (Addr × HO)} (h : KF p H H1 L) (s : Same H1 H2) : KF p H H2 L :=
  ⟨fun b o e n => s _ _ (h.k b o e n), h.pp.imp fun _ e => s _ _ e, fun e m => ⟨s _ _ (h.at_ e m).1, (h.at_ e m).2⟩, h.nd⟩
theorem KF.store {p : Addr} {H H1 : Hp} {o : HO} {L : List (Addr × HO)} (h : KF p H H1 L) : KF p H (upd H1 p o) L :=
  ⟨fun b o e n => by rw [upd_ne n]; exact h.k b o e n, ⟨_, upd_same⟩, fun e m => ⟨by rw [upd_ne (h.at_ e m).2.1]; exact (h.at_ e m).1, (h.at_ e m).2⟩, h.nd⟩
theorem KF.new {p a : Addr} {H H1 : Hp} {L : List (Addr × HO)} (h : KF p H H1 L) (ha : H1 a = none) : a ≠ p ∧ H a = none ∧ a ∉ L.map (·.1) := by
  have hp : a ≠ p := fun z => by
    obtain ⟨o, e⟩ := h.pp
    rw [z, e] at ha; cases ha
  refine ⟨hp, ?_, fun m => ?_⟩
  · cases e : H a with
    | none => rfl
    | some o => rw [h.k a o e hp] at ha; cases ha
  · obtain ⟨e, he, rfl⟩ := List.mem_map.mp m
    rw [(h.at_ e he).1] at ha; cases ha
/-- one more, new at an earlier heap H1 -/
theorem KF.add {p a : Addr} {H H1 H2 : Hp} {o : HO} {L : List (Addr × HO)} (h2 : KF p H H2 L) (h1 : KF p H H1 L) (ha : H1 a = none) (e : H2 a = some o) : KF p H H2 ((a, o) :: L) := by
  obtain ⟨n1, n2, n3⟩ := h1.new ha
  refine ⟨h2.k, h2.pp, fun x m => ?_, List.nodup_cons.mpr ⟨n3, h2.nd⟩⟩
  rcases List.mem_cons.mp m with rfl | m
  · exact ⟨e, n1, n2⟩
  · exact h2.at_ x m
theorem KF.add2 {p a c : Addr} {H H1 H2 : Hp} {o u : HO} {L : List (Addr × HO)} (h2 : KF p H H2 ((c, u) :: L)) (h1 : KF p H H1 L) (ha : H1 a = none) (e : H2 a = some o) (ne : a ≠ c) : KF p H H2 ((a, o) :: (c, u) :: L) := by
  obtain ⟨n1, n2, n3⟩ := h1.new ha
  refine ⟨h2.k, h2.pp, fun x m => ?_, List.nodup_cons.mpr ⟨fun m => ?_, h2.nd⟩⟩
  · rcases List.mem_cons.mp m with rfl | m
    · exact ⟨e, n1, n2⟩
    · exact h2.at_ x m
  · rcases List.mem_cons.mp m with z | m
    · exact ne z
    · exact n3 m
section
variable {P : Program} {w : World} {K : PySem.W.Frag} {mg : Str → Option Value} {base : Heap}
theorem m_Notary__votes {C_Tally : Addr} {C_Notary : Addr} {C_Group : Addr} {C_BadGroup : Addr} (T : Txt K mg C_Tally C_Notary C_Group C_BadGroup) : Met P w K mg base 2 C_Notary "votes" (spNoNum C_Notary C_Tally C_Group K NS.v) [] := by
  have m_Tally__number := m_Tally__number (P := P) (w := w) (base := base) T
  refine met T.cl_Notary T.me_Notary__votes sc_Notary__votes (fun vs H Q E h => ?_) (fun f cdv A outer s H vs Q E hr h => ?_)
  · obtain ⟨p, x, b, rfl, _⟩ := h; rfl
  obtain ⟨p, x, b, rfl, no, ok, hb, q⟩ := h
  obtain ⟨dx, g⟩ := no.ins
  obtain ⟨dv, gv⟩ := no.ta.ins
  refine ⟨_, (pss_one (ps_ret (pe_mt m_Tally__number hr (by decide) (pe_fld (pv 0) rfl) (pa_cons (pv 1) pa_nil)))), ?_⟩
  walk_at "rds"
  refine ⟨p, _, dx, _, _, rfl, g, T.cl_Notary, T.na_Notary__votes, rfl, ?_⟩
  walk_at "rds"
  refine ⟨x.pv, dv, _, rfl, gv, rfl, ?_⟩
  walk_at "rds"
  exact ⟨x.pv, x.bv, x.v, b, rfl, no.ta, ok, hb, q⟩
theorem m_Notary__readies {C_Tally : Addr} {C_Notary : Addr} {C_Group : Addr} {C_BadGroup : Addr} (T : Txt K mg C_Tally C_Notary C_Group C_BadGroup) : Met P w K mg base 2 C_Notary "readies" (spNoNum C_Notary C_Tally C_Group K NS.r) [] := by
  have m_Tally__number := m_Tally__number (P := P) (w := w) (base := base) T
  refine met T.cl_Notary T.me_Notary__readies sc_Notary__readies (fun vs H Q E h => ?_) (fun f cdv A outer s H vs Q E hr h => ?_)
  · obtain ⟨p, x, b, rfl, _⟩ := h; rfl
  obtain ⟨p, x, b, rfl, no, ok, hb, q⟩ := h
  obtain ⟨dx, g⟩ := no.ins
  obtain ⟨dv, gv⟩ := no.tr.ins
  refine ⟨_, (pss_one (ps_ret (pe_mt m_Tally__number hr (by decide) (pe_fld (pv 0) rfl) (pa_cons (pv 1) pa_nil)))), ?_⟩
  walk_at "rds"
  refine ⟨p, _, dx, _, _, rfl, g, T.cl_Notary, T.na_Notary__readies, rfl, ?_⟩
  walk_at "rds"
  refine ⟨x.pr, dv, _, rfl, gv, rfl, ?_⟩
  walk_at "rds"
  exact ⟨x.pr, x.br, x.r, b, rfl, no.tr, ok, hb, q⟩
theorem m_Notary___judge {C_Tally : Addr} {C_Notary : Addr} {C_Group : Addr} {C_BadGroup : Addr} (T : Txt K mg C_Tally C_Notary C_Group C_BadGroup) : Met P w K mg base 3 C_Notary "_judge" (spNoJudge C_Notary C_Tally C_Group K) [] := by
  have m_Notary__votes := m_Notary__votes (P := P) (w := w) (base := base) T
  have m_Notary__readies := m_Notary__readies (P := P) (w := w) (base := base) T
  refine met T.cl_Notary T.me_Notary___judge sc_Notary___judge (fun vs H Q E h => ?_) (fun f cdv A outer s H vs Q E hr h => ?_)
  · obtain ⟨p, x, b, rfl, _⟩ := h; rfl
  obtain ⟨p, x, b, rfl, no, ok, hb, hs, hn, q⟩ := h
  obtain ⟨dx, g⟩ := no.ins
  refine ⟨_, (pss_cons (ps_set (i := 2) sc_Notary___judge.nd rfl (Or.inl rfl) (pe_mt m_Notary__readies hr (by decide) (pv 0) (pa_cons (pv 1) pa_nil)))
      (pss_cut (ps_if (PW.pt (pw_or (pt_cmpR op_ge (pe_mt m_Notary__votes hr (by decide) (pv 0) (pa_cons (pv 1) pa_nil)) (pe_fld (pe_fld (pv 0) rfl) rfl) (nomark _)) (pw_or1 (pt_cmpR op_ge (pv 2) (pe_fld (pe_fld (pv 0) rfl) rfl) (nomark _))))) (pss_one (ps_expr (pe_dsetd (pe_fld (pv 0) rfl) (pe_ix (kixt (K := K)) (pv 1) pe_int (fun _ _ => rfl)) (pv 1) ⟨by rfl, by rfl, by rfl, by rfl⟩))) pss_nil)
      (pss_one (ps_if (pt_cmpR op_ge (pv 2) (pe_fld (pe_fld (pv 0) rfl) rfl) (nomark _)) (pss_one (ps_expr (pe_dsetd (pe_fld (pv 0) rfl) (pe_ix (kixt (K := K)) (pv 1) pe_int (fun _ _ => rfl)) (pv 1) ⟨by rfl, by rfl, by rfl, by rfl⟩))) pss_nil)))), ?_⟩
  walk_at "rds"
  refine ⟨p, dx, _, rfl, g, rfl, ?_⟩
  walk_at "rds"
  refine ⟨p, x, b, rfl, no, ok, hb, fun H1 s1 => ?_⟩
  have no := no.on s1
  have ok := ok.tp (Same.tp s1)
  obtain ⟨dx, g⟩ := no.ins
  obtain ⟨a, xs, ex, ha⟩ := hb.at_ ok.dt
  obtain ⟨dg, gg⟩ := no.gr
  walk_at "rds"
  refine ⟨fun σ' H' => But x.own H1 H' ∧ NoAt C_Notary C_Tally C_Group K H' p { x with s := (x.judge b).s } ∧ σ' = [some (.ref p), some b.1, some (.int (cnt x.r (epD b.2) b.2 : Nat))], ?_, ?_⟩
  · have setd : ∀ H2, Same H1 H2 → ∃ kvs' k, H2 x.sp = some (.dK kvs') ∧ V.int (epD b.2) = kV k ∧ kvs'.length < sizeLine ∧ (∀ v, valV kvs' k = some v → But x.own H1 H2 ∧ NoAt C_Notary C_Tally C_Group K H2 p { x with s := setD x.s (epD b.2) b }) ∧ (valV kvs' k = none → But x.own H1 (upd H2 x.sp (.dK (putK kvs' k b.1))) ∧ NoAt C_Notary C_Tally C_Group K (upd H2 x.sp (.dK (putK kvs' k b.1))) p { x with s := setD x.s (epD b.2) b }) := fun H2 s2 => by
      have no2 := no.on s2
      refine ⟨_, Sum.inl (epD b.2), no2.ss.at_, rfl, by unfold subV; rw [kvs_len]; exact sz1000' (by omega), fun v hv => ?_, fun hv => ?_⟩
      · unfold subV at hv
        rw [gA_kvs inlI] at hv
        refine ⟨Same.but s2, ?_⟩
        have e : setD x.s (epD b.2) b = x.s := by
          unfold setD
          cases g : gA x.s (epD b.2) with
          | none => rw [g] at hv; cases hv
          | some y => rw [if_neg (by simp)]
        rw [e]
        exact no2
      · unfold subV at hv
        rw [gA_kvs inlI] at hv
        have g : gA x.s (epD b.2) = none := by
          cases g : gA x.s (epD b.2) with
          | none => rfl
          | some y => rw [g] at hv; cases hv
        have e : setD x.s (epD b.2) b = x.s ++ [(epD b.2, b)] := by unfold setD; rw [g, if_pos (show (none : Option VD).isNone = true from rfl)]
        rw [e]
        exact ⟨(Same.but s2).trans (but_upd List.mem_cons_self), no2.putS (ok.tp (Same.tp s2)) hs g⟩
    walk_at "rds"
    refine ⟨p, dx, _, rfl, g, rfl, ?_⟩
    walk_at "rds"
    refine ⟨p, x, b, rfl, no, ok, hb, fun H2 s2 => ?_⟩
    obtain ⟨dx2, g2⟩ := (no.on s2).ins
    obtain ⟨dg2, gg2⟩ := (no.on s2).gr
    walk_at "rds"
    refine ⟨p, _, dx2, _, _, rfl, g2, T.cl_Notary, T.na_Notary__group, rfl, ?_⟩
    walk_at "rds"
    refine ⟨x.g, _, dg2, _, _, rfl, gg2, T.cl_Group, T.na_Group_quorum, gF_q _, ?_⟩
    have doS : ∀ H3, Same H1 H3 → (cnt x.v (epD b.2) b.2 ≥ 2 * x.f + 1 ∨ cnt x.r (epD b.2) b.2 ≥ x.f + 1) → ∃ kvs' k, H3 x.sp = some (.dK kvs') ∧ V.int (epD b.2) = kV k ∧ kvs'.length < sizeLine ∧ (∀ v, valV kvs' k = some v → But x.own H1 H3 ∧ NoAt C_Notary C_Tally C_Group K H3 p { x with s := (x.judge b).s }) ∧ (valV kvs' k = none → But x.own H1 (upd H3 x.sp (.dK (putK kvs' k b.1))) ∧ NoAt C_Notary C_Tally C_Group K (upd H3 x.sp (.dK (putK kvs' k b.1))) p { x with s := (x.judge b).s }) := fun H3 s3 c => by
      have e : (x.judge b).s = setD x.s (epD b.2) b := if_pos c
      rw [e]
      exact setd H3 s3
    have noS : ¬ (cnt x.v (epD b.2) b.2 ≥ 2 * x.f + 1 ∨ cnt x.r (epD b.2) b.2 ≥ x.f + 1) → (x.judge b).s = x.s := fun c => if_neg c
    refine ⟨_, _, rfl, rfl, ?_⟩
    refine ⟨_, rfl, ?_⟩
    refine ite2 (fun e => ?_) (fun e => ?_)
    · have c1 : cnt x.v (epD b.2) b.2 ≥ 2 * x.f + 1 := by
        have e : (2 * (x.f : Int) + 1) ≤ (cnt x.v (epD b.2) b.2 : Nat) := of_decide_eq_true e
        omega
      walk_at "rds"
      refine ⟨p, _, dx2, _, _, rfl, g2, T.cl_Notary, T.na_Notary__supported, rfl, ?_⟩
      walk_at "rds"
      refine ⟨.inl ⟨_, .inl (no.on s2).ss.at_⟩, ?_⟩
      rw [ex]
      walk_at "rds"
      refine ⟨a, _, 0, _, rfl, rfl, (ha.same s2).sq, atI_nat (j := 0) rfl, ?_⟩
      walk_at "rds"
      rw [← ex]
      obtain ⟨kv, k, q1, q2, q3, q4, q5⟩ := doS H2 s2 (.inl c1)
      exact ⟨kv, k, q1, q2, q3, fun v hv => ⟨(q4 v hv).1, (q4 v hv).2, rfl⟩, fun hv => ⟨(q5 hv).1, (q5 hv).2, rfl⟩⟩
    · have c1 : ¬ cnt x.v (epD b.2) b.2 ≥ 2 * x.f + 1 := by
        have e : ¬ (2 * (x.f : Int) + 1) ≤ (cnt x.v (epD b.2) b.2 : Nat) := fun z => e (decide_eq_true z)
        omega
      walk_at "rds"
      refine ⟨p, _, dx2, _, _, rfl, g2, T.cl_Notary, T.na_Notary__group, rfl, ?_⟩
      walk_at "rds"
      refine ⟨x.g, _, dg2, _, _, rfl, gg2, T.cl_Group, T.na_Group_blocking, gF_b _, ?_⟩
      refine ⟨_, _, rfl, rfl, ?_⟩
      refine ⟨_, rfl, ?_⟩
      refine ite2 (fun e => ?_) (fun e => ?_)
      · have c2 : cnt x.r (epD b.2) b.2 ≥ x.f + 1 := by
          have e : ((x.f : Int) + 1) ≤ (cnt x.r (epD b.2) b.2 : Nat) := of_decide_eq_true e
          omega
        walk_at "rds"
        refine ⟨p, _, dx2, _, _, rfl, g2, T.cl_Notary, T.na_Notary__supported, rfl, ?_⟩
        walk_at "rds"
        refine ⟨.inl ⟨_, .inl (no.on s2).ss.at_⟩, ?_⟩
        rw [ex]
        walk_at "rds"
        refine ⟨a, _, 0, _, rfl, rfl, (ha.same s2).sq, atI_nat (j := 0) rfl, ?_⟩
        walk_at "rds"
        rw [← ex]
        obtain ⟨kv, k, q1, q2, q3, q4, q5⟩ := doS H2 s2 (.inr c2)
        exact ⟨kv, k, q1, q2, q3, fun v hv => ⟨(q4 v hv).1, (q4 v hv).2, rfl⟩, fun hv => ⟨(q5 hv).1, (q5 hv).2, rfl⟩⟩
      · have c2 : ¬ cnt x.r (epD b.2) b.2 ≥ x.f + 1 := by
          have e : ¬ ((x.f : Int) + 1) ≤ (cnt x.r (epD b.2) b.2 : Nat) := fun z => e (decide_eq_true z)
          omega
        walk_at "rds"
        refine ⟨Same.but s2, ?_, rfl⟩
        rw [noS (by intro z; rcases z with z | z; exact c1 z; exact c2 z)]
        exact no.on s2
  rintro σ' H2 ⟨b2, no2, rfl⟩
  have ok2 := ok.tp (b2.tp no.dk)
  have ha2 := ha.tp (b2.tp no.dk)
  obtain ⟨dx2, g2⟩ := no2.ins
  obtain ⟨dg2, gg2⟩ := no2.gr
  walk_at "rds"
  refine ⟨p, _, dx2, _, _, rfl, g2, T.cl_Notary, T.na_Notary__group, rfl, ?_⟩
  walk_at "rds"
  refine ⟨x.g, _, dg2, _, _, rfl, gg2, T.cl_Group, T.na_Group_quorum, gF_q _, ?_⟩
  refine ⟨_, _, rfl, rfl, ?_⟩
  refine ⟨_, rfl, ?_⟩
  refine ite2 (fun e => ?_) (fun e => ?_)
  · have c1 : cnt x.r (epD b.2) b.2 ≥ 2 * x.f + 1 := by
      have e : (2 * (x.f : Int) + 1) ≤ (cnt x.r (epD b.2) b.2 : Nat) := of_decide_eq_true e
      omega
    have eJ : x.judge b = { x with s := (x.judge b).s, n := setD x.n (epD b.2) b } := by
      show NS.mk .. = NS.mk ..
      congr 1
      exact if_pos c1
    rw [eJ] at q
    walk_at "rds"
    refine ⟨p, _, dx2, _, _, rfl, g2, T.cl_Notary, T.na_Notary__notarized, rfl, ?_⟩
    walk_at "rds"
    refine ⟨.inl ⟨_, .inl no2.sn.at_⟩, ?_⟩
    rw [ex]
    walk_at "rds"
    refine ⟨a, _, 0, _, rfl, rfl, ha2.sq, atI_nat (j := 0) rfl, ?_⟩
    walk_at "rds"
    rw [← ex]
    refine ⟨_, Sum.inl (epD b.2), no2.sn.at_, rfl, by unfold subV; rw [kvs_len]; exact sz1000' (by show x.n.length < 100000; omega), fun v hv => ?_, fun hv => ?_⟩
    · unfold subV at hv
      rw [gA_kvs inlI] at hv
      have hv : (gA x.n (epD b.2)).map (fun x => x.1) = some v := hv
      have e : setD x.n (epD b.2) b = x.n := by
        unfold setD
        cases g : gA x.n (epD b.2) with
        | none => rw [g] at hv; cases hv
        | some y => rw [if_neg (by simp)]
      rw [e] at q
      exact q _ ((Same.but s1).trans b2) no2
    · unfold subV at hv
      rw [gA_kvs inlI] at hv
      have hv : (gA x.n (epD b.2)).map (fun x => x.1) = none := hv
      have g : gA x.n (epD b.2) = none := by
        cases g : gA x.n (epD b.2) with
        | none => rfl
        | some y => rw [g] at hv; cases hv
      have e : setD x.n (epD b.2) b = x.n ++ [(epD b.2, b)] := by unfold setD; rw [g, if_pos (show (none : Option VD).isNone = true from rfl)]
      rw [e] at q
      exact q _ (((Same.but s1).trans b2).trans (but_upd (List.mem_cons_of_mem _ List.mem_cons_self))) (no2.putN ok2 hn g)
  · have c1 : ¬ cnt x.r (epD b.2) b.2 ≥ 2 * x.f + 1 := by
      have e : ¬ (2 * (x.f : Int) + 1) ≤ (cnt x.r (epD b.2) b.2 : Nat) := fun z => e (decide_eq_true z)
      omega
    have eJ : x.judge b = { x with s := (x.judge b).s } := by
      show NS.mk .. = NS.mk ..
      congr 1
      exact if_neg c1
    rw [eJ] at q
    walk_at "rds"
    exact q _ ((Same.but s1).trans b2) no2
theorem m_Notary__add_vote {C_Tally : Addr} {C_Notary : Addr} {C_Group : Addr} {C_BadGroup : Addr} (T : Txt K mg C_Tally C_Notary C_Group C_BadGroup) : Met P w K mg base 4 C_Notary "add_vote" (spNoAdd C_Notary C_Tally C_Group K NS.vote NS.v) [] := by
  have m_Tally__add := m_Tally__add (P := P) (w := w) (base := base) T
  have m_Notary___judge := m_Notary___judge (P := P) (w := w) (base := base) T
  refine met T.cl_Notary T.me_Notary__add_vote sc_Notary__add_vote (fun vs H Q E h => ?_) (fun f cdv A outer s H vs Q E hr h => ?_)
  · obtain ⟨p, x, snd, b, rfl, _⟩ := h; rfl
  obtain ⟨p, x, snd, b, rfl, no, ok, hb, fw, q⟩ := h
  obtain ⟨dx, g⟩ := no.ins
  obtain ⟨dv, gv⟩ := no.ta.ins
  obtain ⟨a, xs, ex, ha⟩ := hb.at_ ok.dt
  refine ⟨_, (pss_cons (ps_if (PW.pt (pw_or (pt_cmpR op_le (pe_ix (kixt (K := K)) (pv 2) pe_int (fun _ _ => rfl)) (pe_fld (pv 0) rfl) (nomark _)) (pw_or1 (pt_not (pt_val (pe_mt m_Tally__add hr (by decide) (pe_fld (pv 0) rfl) (pa_cons (pv 1) (pa_cons (pv 2) pa_nil)))))))) (pss_one (ps_ret pe_bl)) pss_nil)
      (pss_cons (ps_expr (pe_mt m_Notary___judge hr (by decide) (pv 0) (pa_cons (pv 2) pa_nil)))
      (pss_one (ps_ret pe_bl)))), ?_⟩
  rw [ex]
  walk_at "rds"
  refine ⟨a, _, 0, _, rfl, rfl, ha.sq, atI_nat (j := 0) rfl, ?_⟩
  walk_at "rds"
  refine ⟨p, _, dx, _, _, rfl, g, T.cl_Notary, T.na_Notary__forgotten, rfl, ?_⟩
  refine ⟨_, _, rfl, rfl, ?_⟩
  refine ⟨_, rfl, ?_⟩
  refine ite2 (fun e => ?_) (fun e => ?_)
  · have e : epD b.2 ≤ x.fg := of_decide_eq_true e
    have eV : x.vote x.sp snd b = x := if_neg (fun z => by have := z.1; omega)
    have q := q H x.sp (by rw [eV]; exact fun a m => .inl m) But.refl (by rw [eV]; exact no)
    rw [decide_eq_false (show ¬ x.fg < epD b.2 by omega)] at q
    exact q
  · have e : ¬ epD b.2 ≤ x.fg := fun z => e (decide_eq_true z)
    walk_at "rds"
    refine ⟨p, _, dx, _, _, rfl, g, T.cl_Notary, T.na_Notary__votes, rfl, ?_⟩
    walk_at "rds"
    refine ⟨x.pv, dv, _, rfl, gv, rfl, ?_⟩
    walk_at "rds"
    rw [← ex]
    refine ⟨x.pv, x.bv, x.v, snd, b, rfl, no.ta, ok, hb, by have := fw.v; omega, fun e m => by have := fw.vs e m; omega, fun H1 d0 h0 b1 ta1 => ?_⟩
    have no1 := no.newV h0 b1 ta1
    have bO : But x.own H H1 := b1.mono fun a m => List.mem_cons_of_mem _ (List.mem_cons_of_mem _ (List.mem_append_left _ m))
    have eD : decide (x.fg < epD b.2) = true := decide_eq_true (by omega)
    rw [eD] at q
    cases tn : tNew x.v (epD b.2) snd with
    | false =>
      rw [tAdd_old tn] at no1
      have eV : x.vote d0 snd b = x := if_neg (fun z => by rw [tn] at z; cases z.2)
      have q := q H1 d0 (by rw [eV]; exact fun a m => .inl m) bO (by rw [eV]; exact no1)
      rw [tn] at q
      walk_at "rds"
      exact q
    | true =>
      have eV : x.vote d0 snd b = { x with v := tAdd x.v d0 (epD b.2) snd b }.judge b := if_pos ⟨by omega, tn⟩
      have ow : ∀ a ∈ ({ x with v := tAdd x.v d0 (epD b.2) snd b } : NS).own, a ∈ x.own ∨ H a = none := fun a m => by
        rcases List.mem_cons.mp m with rfl | m
        · exact .inl List.mem_cons_self
        rcases List.mem_cons.mp m with rfl | m
        · exact .inl (List.mem_cons_of_mem _ List.mem_cons_self)
        rcases List.mem_append.mp m with m | m
        · rcases taOwn_add no.ta.kk a m with m | rfl
          · exact .inl (List.mem_cons_of_mem _ (List.mem_cons_of_mem _ (List.mem_append_left _ m)))
          · exact .inr h0
        · exact .inl (List.mem_cons_of_mem _ (List.mem_cons_of_mem _ (List.mem_append_right _ m)))
      obtain ⟨dx1, g1⟩ := no1.ins
      have ok1 := ok.tp (b1.tp no.ta.dk)
      walk_at "rds"
      refine ⟨p, dx1, _, rfl, g1, rfl, ?_⟩
      walk_at "rds"
      refine ⟨p, _, b, rfl, no1, ok1, hb, by have := fw.s; show x.s.length < 1000; omega, by have := fw.n; show x.n.length < 1000; omega, fun H2 b2 no2 => ?_⟩
      have q := q H2 d0 (by rw [eV]; exact ow) (fun c o n e => b2 _ _ (fun m => by
        rcases ow c m with z | z
        · exact n z
        · rw [z] at e; cases e) (bO c o n e)) (by rw [eV]; exact no2)
      rw [tn] at q
      walk_at "rds"
      exact q
theorem m_Notary__add_ready {C_Tally : Addr} {C_Notary : Addr} {C_Group : Addr} {C_BadGroup : Addr} (T : Txt K mg C_Tally C_Notary C_Group C_BadGroup) : Met P w K mg base 4 C_Notary "add_ready" (spNoAdd C_Notary C_Tally C_Group K NS.ready NS.r) [] := by
  have m_Tally__add := m_Tally__add (P := P) (w := w) (base := base) T
  have m_Notary___judge := m_Notary___judge (P := P) (w := w) (base := base) T
  refine met T.cl_Notary T.me_Notary__add_ready sc_Notary__add_ready (fun vs H Q E h => ?_) (fun f cdv A outer s H vs Q E hr h => ?_)
  · obtain ⟨p, x, snd, b, rfl, _⟩ := h; rfl
  obtain ⟨p, x, snd, b, rfl, no, ok, hb, fw, q⟩ := h
  obtain ⟨dx, g⟩ := no.ins
  obtain ⟨dv, gv⟩ := no.tr.ins
  obtain ⟨a, xs, ex, ha⟩ := hb.at_ ok.dt
  refine ⟨_, (pss_cons (ps_if (PW.pt (pw_or (pt_cmpR op_le (pe_ix (kixt (K := K)) (pv 2) pe_int (fun _ _ => rfl)) (pe_fld (pv 0) rfl) (nomark _)) (pw_or1 (pt_not (pt_val (pe_mt m_Tally__add hr (by decide) (pe_fld (pv 0) rfl) (pa_cons (pv 1) (pa_cons (pv 2) pa_nil)))))))) (pss_one (ps_ret pe_bl)) pss_nil)
      (pss_cons (ps_expr (pe_mt m_Notary___judge hr (by decide) (pv 0) (pa_cons (pv 2) pa_nil)))
      (pss_one (ps_ret pe_bl)))), ?_⟩
  rw [ex]
  walk_at "rds"
  refine ⟨a, _, 0, _, rfl, rfl, ha.sq, atI_nat (j := 0) rfl, ?_⟩
  walk_at "rds"
  refine ⟨p, _, dx, _, _, rfl, g, T.cl_Notary, T.na_Notary__forgotten, rfl, ?_⟩
  refine ⟨_, _, rfl, rfl, ?_⟩
  refine ⟨_, rfl, ?_⟩
  refine ite2 (fun e => ?_) (fun e => ?_)
  · have e : epD b.2 ≤ x.fg := of_decide_eq_true e
    have eV : x.ready x.sp snd b = x := if_neg (fun z => by have := z.1; omega)
    have q := q H x.sp (by rw [eV]; exact fun a m => .inl m) But.refl (by rw [eV]; exact no)
    rw [decide_eq_false (show ¬ x.fg < epD b.2 by omega)] at q
    exact q
  · have e : ¬ epD b.2 ≤ x.fg := fun z => e (decide_eq_true z)
    walk_at "rds"
    refine ⟨p, _, dx, _, _, rfl, g, T.cl_Notary, T.na_Notary__readies, rfl, ?_⟩
    walk_at "rds"
    refine ⟨x.pr, dv, _, rfl, gv, rfl, ?_⟩
    walk_at "rds"
    rw [← ex]
    refine ⟨x.pr, x.br, x.r, snd, b, rfl, no.tr, ok, hb, by have := fw.r; omega, fun e m => by have := fw.rs e m; omega, fun H1 d0 h0 b1 ta1 => ?_⟩
    have no1 := no.newR h0 b1 ta1
    have bO : But x.own H H1 := b1.mono fun a m => List.mem_cons_of_mem _ (List.mem_cons_of_mem _ (List.mem_append_right _ m))
    have eD : decide (x.fg < epD b.2) = true := decide_eq_true (by omega)
    rw [eD] at q
    cases tn : tNew x.r (epD b.2) snd with
    | false =>
      rw [tAdd_old tn] at no1
      have eV : x.ready d0 snd b = x := if_neg (fun z => by rw [tn] at z; cases z.2)
      have q := q H1 d0 (by rw [eV]; exact fun a m => .inl m) bO (by rw [eV]; exact no1)
      rw [tn] at q
      walk_at "rds"
      exact q
    | true =>
      have eV : x.ready d0 snd b = { x with r := tAdd x.r d0 (epD b.2) snd b }.judge b := if_pos ⟨by omega, tn⟩
      have ow : ∀ a ∈ ({ x with r := tAdd x.r d0 (epD b.2) snd b } : NS).own, a ∈ x.own ∨ H a = none := fun a m => by
        rcases List.mem_cons.mp m with rfl | m
        · exact .inl List.mem_cons_self
        rcases List.mem_cons.mp m with rfl | m
        · exact .inl (List.mem_cons_of_mem _ List.mem_cons_self)
        rcases List.mem_append.mp m with m | m
        · exact .inl (List.mem_cons_of_mem _ (List.mem_cons_of_mem _ (List.mem_append_left _ m)))
        · rcases taOwn_add no.tr.kk a m with m | rfl
          · exact .inl (List.mem_cons_of_mem _ (List.mem_cons_of_mem _ (List.mem_append_right _ m)))
          · exact .inr h0
      obtain ⟨dx1, g1⟩ := no1.ins
      have ok1 := ok.tp (b1.tp no.tr.dk)
      walk_at "rds"
      refine ⟨p, dx1, _, rfl, g1, rfl, ?_⟩
      walk_at "rds"
      refine ⟨p, _, b, rfl, no1, ok1, hb, by have := fw.s; show x.s.length < 1000; omega, by have := fw.n; show x.n.length < 1000; omega, fun H2 b2 no2 => ?_⟩
      have q := q H2 d0 (by rw [eV]; exact ow) (fun c o n e => b2 _ _ (fun m => by
        rcases ow c m with z | z
        · exact n z
        · rw [z] at e; cases e) (bO c o n e)) (by rw [eV]; exact no2)
      rw [tn] at q
      walk_at "rds"
      exact q
theorem k_Notary {C_Tally : Addr} {C_Notary : Addr} {C_Group : Addr} {C_BadGroup : Addr} (T : Txt K mg C_Tally C_Notary C_Group C_BadGroup) : Mak P w K mg base 3 "Notary" C_Notary (spNoInit C_Notary C_Tally C_Group K) [] := by
  have k_Tally := k_Tally (P := P) (w := w) (base := base) T
  refine mak T.g_Notary T.mk_Notary sc_Notary____init__ (fun vs H Q E h => ?_) (fun f cdv A outer s H vs Q E hr h => ?_)
  · obtain ⟨p, dx, g, f, rfl, _⟩ := h; rfl
  obtain ⟨p, dx, g, n, rfl, hp, gr, hgp, q⟩ := h
  refine ⟨_, (pss_cons (ps_fld (pv 0) (pv 1) rfl)
      (pss_cons (ps_fld (pv 0) (pe_mk0 k_Tally hr (by decide) (by rfl)) rfl)
      (pss_cons (ps_fld (pv 0) (pe_mk0 k_Tally hr (by decide) (by rfl)) rfl)
      (pss_cons (ps_fld (pv 0) pe_dnewK rfl)
      (pss_cons (ps_fld (pv 0) pe_dnewK rfl)
      (pss_one (ps_fld (pv 0) pe_int rfl))))))), ?_⟩
  walk_at "rds"
  refine ⟨p, _, dx, _, rfl, hp, T.cl_Notary, T.na_Notary__group, by decide, ?_⟩
  have K0 : KF p H H [] := ⟨fun _ _ e _ => e, ⟨_, hp⟩, (fun _ m => nomatch m), List.nodup_nil⟩
  have K1 := K0.store (o := .ins C_Notary dx (putF "_group" (.ref g) []))
  have e1 : upd H p (.ins C_Notary dx (putF "_group" (.ref g) [])) p = some (.ins C_Notary dx (putF "_group" (.ref g) [])) := upd_same
  generalize upd H p (.ins C_Notary dx (putF "_group" (.ref g) [])) = H1 at K1 e1
  walk_at "rds"
  intro pv dv hpv hdv hne
  refine ⟨pv, dv, rfl, upd_same, fun H2 bv kp hbv g2 t2 => ⟨rfl, ?_⟩⟩
  have s2 : Same H1 H2 := Same.made hpv hdv kp
  have mk : Same H1 (upd (upd H1 dv (.own pv)) pv (.ins C_Tally dv [])) := (same_upd hdv).trans (same_upd (by rw [upd_ne hne.symm]; exact hpv))
  have hbv1 := same_none mk hbv
  have npb : pv ≠ bv := ne_of_none upd_same hbv
  have K2 := ((K1.on s2).add K1 hbv1 t2 |>.add2 K1 hpv g2 npb)
  have e2 := s2 _ _ e1
  walk_at "rds"
  refine ⟨p, _, dx, _, rfl, e2, T.cl_Notary, T.na_Notary__votes, (by show 1 < 1000; decide), ?_⟩
  have K3 := K2.store (o := .ins C_Notary dx (putF "_votes" (.ref pv) (putF "_group" (.ref g) [])))
  have e3 : upd H2 p (.ins C_Notary dx (putF "_votes" (.ref pv) (putF "_group" (.ref g) []))) p = some (.ins C_Notary dx (putF "_votes" (.ref pv) (putF "_group" (.ref g) []))) := upd_same
  generalize upd H2 p (.ins C_Notary dx (putF "_votes" (.ref pv) (putF "_group" (.ref g) []))) = H3 at K3 e3
  walk_at "rds"
  intro pr dr hpr hdr hne2
  refine ⟨pr, dr, rfl, upd_same, fun H4 br kp4 hbr g4 t4 => ⟨rfl, ?_⟩⟩
  have s4 : Same H3 H4 := Same.made hpr hdr kp4
  have mk4 : Same H3 (upd (upd H3 dr (.own pr)) pr (.ins C_Tally dr [])) := (same_upd hdr).trans (same_upd (by rw [upd_ne hne2.symm]; exact hpr))
  have hbr3 := same_none mk4 hbr
  have npb2 : pr ≠ br := ne_of_none upd_same hbr
  have K4 := ((K3.on s4).add K3 hbr3 t4 |>.add2 K3 hpr g4 npb2)
  have e4 := s4 _ _ e3
  walk_at "rds"
  refine ⟨p, _, dx, _, rfl, e4, T.cl_Notary, T.na_Notary__readies, (by show 2 < 1000; decide), ?_⟩
  have K5 := K4.store (o := .ins C_Notary dx (putF "_readies" (.ref pr) (putF "_votes" (.ref pv) (putF "_group" (.ref g) []))))
  have e5 : upd H4 p (.ins C_Notary dx (putF "_readies" (.ref pr) (putF "_votes" (.ref pv) (putF "_group" (.ref g) [])))) p = some (.ins C_Notary dx (putF "_readies" (.ref pr) (putF "_votes" (.ref pv) (putF "_group" (.ref g) [])))) := upd_same
  generalize upd H4 p (.ins C_Notary dx (putF "_readies" (.ref pr) (putF "_votes" (.ref pv) (putF "_group" (.ref g) [])))) = H5 at K5 e5
  walk_at "rds"
  intro sp hsp
  walk_at "rds"
  have K6 := (K5.on (same_upd (o := .dK []) hsp)).add K5 hsp upd_same
  have e6 := (same_upd (o := .dK []) hsp) _ _ e5
  generalize upd H5 sp (.dK []) = H6 at K6 e6
  refine ⟨p, _, dx, _, rfl, e6, T.cl_Notary, T.na_Notary__supported, (by show 3 < 1000; decide), ?_⟩
  have K7 := K6.store (o := .ins C_Notary dx (putF "_supported" (.ref sp) (putF "_readies" (.ref pr) (putF "_votes" (.ref pv) (putF "_group" (.ref g) [])))))
  have e7 : upd H6 p (.ins C_Notary dx (putF "_supported" (.ref sp) (putF "_readies" (.ref pr) (putF "_votes" (.ref pv) (putF "_group" (.ref g) []))))) p = some (.ins C_Notary dx (putF "_supported" (.ref sp) (putF "_readies" (.ref pr) (putF "_votes" (.ref pv) (putF "_group" (.ref g) []))))) := upd_same
  generalize upd H6 p (.ins C_Notary dx (putF "_supported" (.ref sp) (putF "_readies" (.ref pr) (putF "_votes" (.ref pv) (putF "_group" (.ref g) []))))) = H7 at K7 e7
  walk_at "rds"
  intro nt hnt
  walk_at "rds"
  have K8 := (K7.on (same_upd (o := .dK []) hnt)).add K7 hnt upd_same
  have e8 := (same_upd (o := .dK []) hnt) _ _ e7
  generalize upd H7 nt (.dK []) = H8 at K8 e8
  refine ⟨p, _, dx, _, rfl, e8, T.cl_Notary, T.na_Notary__notarized, (by show 4 < 1000; decide), ?_⟩
  have K9 := K8.store (o := .ins C_Notary dx (putF "_notarized" (.ref nt) (putF "_supported" (.ref sp) (putF "_readies" (.ref pr) (putF "_votes" (.ref pv) (putF "_group" (.ref g) []))))))
  have e9 : upd H8 p (.ins C_Notary dx (putF "_notarized" (.ref nt) (putF "_supported" (.ref sp) (putF "_readies" (.ref pr) (putF "_votes" (.ref pv) (putF "_group" (.ref g) [])))))) p = some (.ins C_Notary dx (putF "_notarized" (.ref nt) (putF "_supported" (.ref sp) (putF "_readies" (.ref pr) (putF "_votes" (.ref pv) (putF "_group" (.ref g) [])))))) := upd_same
  generalize upd H8 p (.ins C_Notary dx (putF "_notarized" (.ref nt) (putF "_supported" (.ref sp) (putF "_readies" (.ref pr) (putF "_votes" (.ref pv) (putF "_group" (.ref g) [])))))) = H9 at K9 e9
  walk_at "rds"
  refine ⟨p, _, dx, _, rfl, e9, T.cl_Notary, T.na_Notary__forgotten, (by show 5 < 1000; decide), ?_⟩
  have KA := K9.store (o := .ins C_Notary dx (putF "_forgotten" (.int 0) (putF "_notarized" (.ref nt) (putF "_supported" (.ref sp) (putF "_readies" (.ref pr) (putF "_votes" (.ref pv) (putF "_group" (.ref g) [])))))))
  have eA : upd H9 p (.ins C_Notary dx (putF "_forgotten" (.int 0) (putF "_notarized" (.ref nt) (putF "_supported" (.ref sp) (putF "_readies" (.ref pr) (putF "_votes" (.ref pv) (putF "_group" (.ref g) []))))))) p = some (.ins C_Notary dx (putF "_forgotten" (.int 0) (putF "_notarized" (.ref nt) (putF "_supported" (.ref sp) (putF "_readies" (.ref pr) (putF "_votes" (.ref pv) (putF "_group" (.ref g) []))))))) := upd_same
  generalize upd H9 p (.ins C_Notary dx (putF "_forgotten" (.int 0) (putF "_notarized" (.ref nt) (putF "_supported" (.ref sp) (putF "_readies" (.ref pr) (putF "_votes" (.ref pv) (putF "_group" (.ref g) []))))))) = HA at KA eA
  have nd := KA.nd
  have at_ : ∀ a o, (a, o) ∈ [(nt, HO.dK []), (sp, HO.dK []), (pr, HO.ins C_Tally dr [("_blocks", .ref br)]), (br, HO.dK []), (pv, HO.ins C_Tally dv [("_blocks", .ref bv)]), (bv, HO.dK [])] → HA a = some o ∧ a ≠ p ∧ H a = none := fun a o m => KA.at_ (a, o) m
  have nd : [nt, sp, pr, br, pv, bv].Nodup := nd
  simp only [List.nodup_cons, List.mem_cons, List.not_mem_nil, or_false, not_or, not_false_eq_true, List.nodup_nil, and_true] at nd
  obtain ⟨⟨d1, d2, d3, d4, d5⟩, ⟨d6, d7, d8, d9⟩, ⟨d10, d11, d12⟩, ⟨d13, d14⟩, d15⟩ := nd
  refine q HA { g := g, f := n, pv := pv, pr := pr, bv := bv, br := br, sp := sp, nt := nt, v := [], r := [], s := [], n := [], fg := 0 } KA.k (fun a m => ?_) ⟨⟨dx, eA⟩, gr.imp fun _ e => KA.k _ _ e hgp, ?_, ?_, ?_, ?_, ?_⟩ rfl rfl rfl rfl rfl rfl rfl
  · have m : a ∈ [sp, nt, bv, br] := m
    simp only [List.mem_cons, List.not_mem_nil, or_false] at m
    rcases m with rfl | rfl | rfl | rfl
    · exact (at_ _ (.dK []) (by simp)).2.2
    · exact (at_ _ (.dK []) (by simp)).2.2
    · exact (at_ _ (.dK []) (by simp)).2.2
    · exact (at_ _ (.dK []) (by simp)).2.2
  · exact ⟨⟨dv, (at_ _ _ (by simp)).1⟩, (at_ _ (.dK []) (by simp)).1, fun _ m => (nomatch m), by show [bv].Nodup; simp, List.nodup_nil, Nat.zero_le _⟩
  · exact ⟨⟨dr, (at_ _ _ (by simp)).1⟩, (at_ _ (.dK []) (by simp)).1, fun _ m => (nomatch m), by show [br].Nodup; simp, List.nodup_nil, Nat.zero_le _⟩
  · exact ⟨(at_ _ (.dK []) (by simp)).1, fun _ m => (nomatch m), List.nodup_nil, Nat.zero_le _⟩
  · exact ⟨(at_ _ (.dK []) (by simp)).1, fun _ m => (nomatch m), List.nodup_nil, Nat.zero_le _⟩
  · show [sp, nt, bv, br].Nodup
    simp only [List.nodup_cons, List.mem_cons, List.not_mem_nil, or_false, not_or, not_false_eq_true, List.nodup_nil, and_true]
    exact ⟨⟨fun z => d1 z.symm, d9, d7⟩, ⟨d5, d3⟩, fun z => d14 z.symm⟩
end

/-! ### supported, notarized -/
section
variable {P : Program} {w : World} {K : PySem.W.Frag} {mg : Str → Option Value} {base : Heap}
theorem m_Notary__supported {C_Tally : Addr} {C_Notary : Addr} {C_Group : Addr} {C_BadGroup : Addr} (T : Txt K mg C_Tally C_Notary C_Group C_BadGroup) : Met P w K mg base 1 C_Notary "supported" (spNoGet C_Notary C_Tally C_Group K NS.s) [] := by
  refine met T.cl_Notary T.me_Notary__supported sc_Notary__supported (fun vs H Q E h => ?_) (fun f cdv A outer s H vs Q E hr h => ?_)
  · obtain ⟨p, x, e, rfl, _⟩ := h; rfl
  obtain ⟨p, x, e, rfl, no, q⟩ := h
  obtain ⟨dx, g⟩ := no.ins
  refine ⟨_, (pss_one (ps_ret (pe_dget1 (hu1 hr) (pe_fld (pv 0) rfl) (pv 1) ⟨by rfl, by rfl, by rfl, by rfl⟩))), ?_⟩
  walk_at "rds"
  refine ⟨p, _, dx, _, _, rfl, g, T.cl_Notary, T.na_Notary__supported, rfl, ?_⟩
  walk_at "rds"
  refine ⟨.inl ⟨_, .inl no.ss.at_⟩, ?_⟩
  walk_at "rds"
  refine ⟨_, DGet.k (k := Sum.inl e) no.ss.at_, ?_⟩
  unfold subV
  rw [gA_kvs inlI]
  exact q
theorem m_Notary__notarized {C_Tally : Addr} {C_Notary : Addr} {C_Group : Addr} {C_BadGroup : Addr} (T : Txt K mg C_Tally C_Notary C_Group C_BadGroup) : Met P w K mg base 1 C_Notary "notarized" (spNoGet C_Notary C_Tally C_Group K NS.n) [] := by
  refine met T.cl_Notary T.me_Notary__notarized sc_Notary__notarized (fun vs H Q E h => ?_) (fun f cdv A outer s H vs Q E hr h => ?_)
  · obtain ⟨p, x, e, rfl, _⟩ := h; rfl
  obtain ⟨p, x, e, rfl, no, q⟩ := h
  obtain ⟨dx, g⟩ := no.ins
  refine ⟨_, (pss_one (ps_ret (pe_dget1 (hu1 hr) (pe_fld (pv 0) rfl) (pv 1) ⟨by rfl, by rfl, by rfl, by rfl⟩))), ?_⟩
  walk_at "rds"
  refine ⟨p, _, dx, _, _, rfl, g, T.cl_Notary, T.na_Notary__notarized, rfl, ?_⟩
  walk_at "rds"
  refine ⟨.inl ⟨_, .inl no.sn.at_⟩, ?_⟩
  walk_at "rds"
  refine ⟨_, DGet.k (k := Sum.inl e) no.sn.at_, ?_⟩
  unfold subV
  rw [gA_kvs inlI]
  exact q
end

--@SPLIT
/-! ### the law -/
def bkD (m : Int) : PyData := .tuple [.int 3, .int 0, .int 1, .tuple [.tuple [.int (-1), .int (1 + m % 3), .str "a"]]]
def spBk (K : PySem.W.Frag) : Sp := fun vs H Q _ => ∃ m : Int, vs = [.int m] ∧ ∀ H' v, Same H H' → OkD K H' (v, bkD m) → Q v H'
theorem bkD_ly (m : Int) : Ly 3 (bkD m) := ly_tup (ly_cons (ly_int _) (ly_cons (ly_int _) (ly_cons (ly_int _) (ly_cons (ly_tup (ly_cons (ly_tup (ly_cons (ly_int _) (ly_cons (ly_int _) (ly_cons (ly_str (by decide +kernel)) ly_nil)))) ly_nil)) ly_nil))))
theorem bkD_eqv {a b : Int} (h : PyData.eqv (bkD a) (bkD b) = true) : bkD a = bkD b := by
  unfold bkD at h ⊢
  simp [PyData.eqv, PyData.eqvAll] at h
  rw [h]
theorem bkD_is (m : Int) : IsBk (bkD m) := ⟨_, _, rfl⟩
theorem bkD_nl (m : Int) : noL (bkD m) = true := rfl
/-- _law_shift(number, base, times): no more is said of it than its sign -/
def spShift : Sp := fun vs H Q _ => ∃ (a b : Int) (n : Nat), vs = [.int a, .int b, .int n] ∧ 0 ≤ a ∧ 0 < b ∧ b < 1073741824 ∧ n ≤ 1000 ∧ ∀ c : Int, 0 ≤ c → Q (.int c) H
section
variable {P : Program} {w : World} {K : PySem.W.Frag} {mg : Str → Option Value} {base : Heap}
theorem c__law_block {C_Tally : Addr} {C_Notary : Addr} {C_Group : Addr} {C_BadGroup : Addr} (T : Txt K mg C_Tally C_Notary C_Group C_BadGroup) : Cal P w K mg base 1 "_law_block" (spBk K) [] := by
  refine cal T.d__law_block sc__law_block (fun vs H Q E h => ?_) (fun f cdv A outer s H vs Q E hr h => ?_)
  · obtain ⟨c, rfl, _⟩ := h; rfl
  obtain ⟨c, rfl, q⟩ := h
  refine ⟨_, (pss_one (ps_ret (pe_tup (pa_cons pe_int (pa_cons pe_int (pa_cons pe_int (pa_cons (pe_tup (pa_cons (pe_tup (pa_cons (pe_un un_neg pe_int) (pa_cons (pe_op op_add pe_int (pe_op op_mod (pv 0) pe_int)) (pa_cons pe_str pa_nil)))) pa_nil)) pa_nil))))))), ?_⟩
  walk_at "rds"
  intro t1 h1
  have s1 := same_upd (o := .tup [.int (-1), .int (1 + c % 3), .str "a"]) h1
  have d1 : Dt K (upd H t1 (.tup [.int (-1), .int (1 + c % 3), .str "a"])) none (.ref t1) (.tuple [.int (-1), .int (1 + c % 3), .str "a"]) := .tup (.inl upd_same) (.cons (.int _) (.cons (.int _) (.cons (.str _ (by decide)) .nil)))
  generalize upd H t1 (.tup [V.int (-1), .int (1 + c % 3), .str "a"]) = H1 at s1 d1
  walk_at "rds"
  intro t2 h2
  have s2 := s1.trans (same_upd (o := .tup [.ref t1]) h2)
  have d2 : Dt K (upd H1 t2 (.tup [.ref t1])) none (.ref t2) (.tuple [.tuple [.int (-1), .int (1 + c % 3), .str "a"]]) := .tup (.inl upd_same) (.cons (d1.on (same_upd h2)) .nil)
  generalize upd H1 t2 (.tup [V.ref t1]) = H2 at s2 d2
  walk_at "rds"
  intro t3 h3
  refine q _ _ (s2.trans (same_upd h3)) ⟨.tup (.inl upd_same) (.cons (.int _) (.cons (.int _) (.cons (.int _) (.cons (d2.on (same_upd h3)) .nil)))), rfl, (bkD_ly c).mono (by decide)⟩
theorem c__law_shift {C_Tally : Addr} {C_Notary : Addr} {C_Group : Addr} {C_BadGroup : Addr} (T : Txt K mg C_Tally C_Notary C_Group C_BadGroup) : Cal P w K mg base 1 "_law_shift" spShift [] := by
  refine cal T.d__law_shift sc__law_shift (fun vs H Q E h => ?_) (fun f cdv A outer s H vs Q E hr h => ?_)
  · obtain ⟨a, b, n, rfl, _⟩ := h; rfl
  obtain ⟨a, b, n, rfl, ha, hb, hb2, hn, q⟩ := h
  refine ⟨_, (pss_cons (ps_for PassesOwn.never rfl (pi_range1 (by rfl) T.z_range (pa_cons (pv 2) pa_nil)) (pg_name (i := 3) sc__law_shift.nd rfl (Or.inl rfl)) (pss_one (ps_set (i := 0) sc__law_shift.nd rfl (Or.inl rfl) (pe_op op_fdiv (pv 0) (pv 1)))))
      (pss_one (ps_ret (pv 0)))), ?_⟩
  walk_at "rds"
  refine for_it walk_range (Pv := fun i σ' H' => H' = H ∧ ∃ (x : Int) (y3 : Option V), 0 ≤ x ∧ σ' = [some (.int x), some (.int b), some (.int n), y3]) ⟨rfl, a, none, ha, rfl⟩ (fun _ _ _ _ _ => trivial) (fun i x σ' H1 H2 hi hp hy => ?_) (fun σ' H1 hp => ?_)
  · obtain ⟨rfl, y, y3, hy0, rfl⟩ := hp
    obtain ⟨rfl, rfl⟩ := hy
    walk_at "rds"
    exact ⟨rfl, _, _, Int.ediv_nonneg hy0 (Int.le_of_lt hb), rfl⟩
  · obtain ⟨rfl, y, y3, hy0, rfl⟩ := hp
    walk_at "rds"
    exact q y hy0
end

/-! ### the sub-dict of an epoch, after add -/
theorem gA_app {κ α : Type} [DecidableEq κ] (ks ls : List (κ × α)) (c : κ) : gA (ks ++ ls) c = (gA ks c).or (gA ls c) := by
  unfold gA
  rw [List.find?_append]
  cases ks.find? (fun k => decide (k.1 = c)) <;> rfl
theorem subA_add {t : TD} {d0 : Addr} {e snd : Int} {b : VD} (hk : kOk t) (hn : tNew t e snd = true) (e' : Int) : subA (tAdd t d0 e snd b) e' = if e' = e then subA t e ++ [(snd, b)] else subA t e' := by
  unfold tAdd
  cases g : gA t e with
  | none =>
    have h1 : subA t e = [] := by unfold subA; rw [g]; rfl
    show subA (t ++ [(e, (d0, [(snd, b)]))]) e' = _
    unfold subA
    rw [gA_app]
    by_cases h : e' = e
    · subst h
      rw [g, if_pos rfl]
      simp [gA]
    · rw [if_neg h]
      have : gA [(e, (d0, [(snd, b)]))] e' = none := by
        unfold gA
        rw [List.find?_cons, decide_eq_false (show ¬ e = e' from fun z => h z.symm)]; rfl
      rw [this]
      cases gA t e' <;> rfl
  | some ds =>
    obtain ⟨d, s⟩ := ds
    have h1 : subA t e = s := by unfold subA; rw [g]; rfl
    unfold tNew at hn
    rw [h1] at hn
    show subA (if (gA s snd).isNone = true then pA t e (d, s ++ [(snd, b)]) else t) e' = _
    rw [if_pos hn, h1]
    unfold subA
    rw [gA_put hk]
    by_cases h : e' = e
    · rw [if_pos h, if_pos h]; rfl
    · rw [if_neg h, if_neg h]

/-! ### counting -/
theorem nodup_len : ∀ {xs ys : List Int}, xs.Nodup → (∀ a ∈ xs, a ∈ ys) → xs.length ≤ ys.length
  | [], _, _, _ => Nat.zero_le _
  | a :: r, ys, nd, h => by
    have nd := List.nodup_cons.mp nd
    have m := h a List.mem_cons_self
    have := nodup_len (xs := r) (ys := ys.erase a) nd.2 fun b hb => by
      have : b ≠ a := fun z => nd.1 (by rw [← z]; exact hb)
      exact (List.mem_erase_of_ne this).mpr (h b (List.mem_cons_of_mem _ hb))
    rw [List.length_erase_of_mem m] at this
    have : 0 < ys.length := List.length_pos_of_mem m
    rw [List.length_cons]; omega
/-- lo, lo + 1, .. : n ints -/
def iota (lo : Int) (n : Nat) : List Int := (List.range n).map fun (k : Nat) => lo + (k : Int)
theorem iota_mem {lo a : Int} {n : Nat} (h : lo ≤ a ∧ a < lo + n) : a ∈ iota lo n := by
  refine List.mem_map.mpr ⟨(a - lo).toNat, List.mem_range.mpr (by omega), by omega⟩
theorem iota_len {lo : Int} {n : Nat} : (iota lo n).length = n := by unfold iota; rw [List.length_map, List.length_range]
theorem in_range_len {xs : List Int} {lo : Int} {n : Nat} (nd : xs.Nodup) (h : ∀ a ∈ xs, lo ≤ a ∧ a < lo + n) : xs.length ≤ n := by
  have := nodup_len nd fun a m => iota_mem (h a m)
  rw [iota_len] at this
  exact this
def vD (vs : List VD) (k : Nat) : PyData := (vs.getD k (V.non, PyData.none)).2
/-- the honest machines whose vote is d -/
def HV (f : Nat) (vs : List VD) (d : PyData) : List Int := (iota f (2 * f + 1)).filter fun k => PyData.eqv (vD vs k.toNat) d
def Good (f : Nat) (vs : List VD) (d : PyData) : Prop := f + 1 ≤ (HV f vs d).length
theorem iota_nodup {lo : Int} {n : Nat} : (iota lo n).Nodup := by
  unfold iota
  refine List.Pairwise.map _ (fun a b h => ?_) List.nodup_range
  omega
theorem HV_nodup (f : Nat) (vs : List VD) (d : PyData) : (HV f vs d).Nodup := iota_nodup.sublist List.filter_sublist
theorem HV_mem {f : Nat} {vs : List VD} {d : PyData} {a : Int} (h : a ∈ HV f vs d) : (f : Int) ≤ a ∧ a < 3 * (f : Int) + 1 ∧ PyData.eqv (vD vs a.toNat) d = true := by
  obtain ⟨h1, h2⟩ := List.mem_filter.mp h
  obtain ⟨k, hk, rfl⟩ := List.mem_map.mp h1
  have := List.mem_range.mp hk
  exact ⟨by omega, by omega, h2⟩
def DOk (d : PyData) : Prop := d = .none ∨ ∃ m, d = bkD m
theorem eqv_none (m : Int) : PyData.eqv .none (bkD m) = false := by simp [bkD, PyData.eqv]
theorem dok_eqv {d : PyData} {m : Int} (h : DOk d) (e : PyData.eqv d (bkD m) = true) : d = bkD m := by
  rcases h with rfl | ⟨j, rfl⟩
  · rw [eqv_none] at e; cases e
  · exact bkD_eqv e
theorem good_eq {f : Nat} {vs : List VD} {m m' : Int} (hv : ∀ k, DOk (vD vs k)) (h : Good f vs (bkD m)) (h' : Good f vs (bkD m')) : bkD m = bkD m' := by
  by_cases ex : ∃ a, a ∈ HV f vs (bkD m) ∧ a ∈ HV f vs (bkD m')
  · obtain ⟨a, h1, h2⟩ := ex
    rw [← dok_eqv (hv _) (HV_mem h1).2.2, ← dok_eqv (hv _) (HV_mem h2).2.2]
  · have nd : (HV f vs (bkD m) ++ HV f vs (bkD m')).Nodup := List.nodup_append.mpr ⟨HV_nodup _ _ _, HV_nodup _ _ _, fun a h1 b h2 e => ex ⟨a, h1, by rw [e]; exact h2⟩⟩
    have := in_range_len (lo := (f : Int)) (n := 2 * f + 1) nd fun a m => by
      rcases List.mem_append.mp m with m | m
      · have := HV_mem m; omega
      · have := HV_mem m; omega
    rw [List.length_append] at this
    unfold Good at h h'
    omega
/-- the senders of those who say d -/
def sndD (L : Sub) (d : PyData) : List Int := (L.filter fun e => PyData.eqv e.2.2 d).map (·.1)
theorem sndD_nodup {L : Sub} (k : kOk L) (d : PyData) : (sndD L d).Nodup := List.Pairwise.sublist (List.Sublist.map _ List.filter_sublist) k
theorem sndD_len (L : Sub) (d : PyData) : (sndD L d).length = L.countP fun e => PyData.eqv e.2.2 d := by
  unfold sndD
  rw [List.length_map, List.countP_eq_length_filter]
theorem sndD_mem {L : Sub} {d : PyData} {a : Int} (h : a ∈ sndD L d) : ∃ e ∈ L, e.1 = a ∧ PyData.eqv e.2.2 d = true := by
  obtain ⟨e, he, rfl⟩ := List.mem_map.mp h
  obtain ⟨h1, h2⟩ := List.mem_filter.mp he
  exact ⟨e, h1, rfl, h2⟩
theorem len_split (p : Int → Bool) : ∀ xs : List Int, xs.length = (xs.filter p).length + (xs.filter fun a => !p a).length
  | [] => rfl
  | a :: r => by
    have := len_split p r
    rw [List.filter_cons, List.filter_cons]
    cases h : p a
    · simp only [Bool.not_false, if_true, List.length_cons, Bool.false_eq_true, if_false]; omega
    · simp only [Bool.not_true, if_true, List.length_cons, Bool.false_eq_true, if_false]; omega
theorem goodV {f : Nat} {vs : List VD} {L : Sub} {m : Int} (k : kOk L) (h : ∀ e ∈ L, 0 ≤ e.1 ∧ e.1 < 3 * (f : Int) + 1 ∧ ((f : Int) ≤ e.1 → e.2.2 = vD vs e.1.toNat)) (c : 2 * f + 1 ≤ L.countP fun e => PyData.eqv e.2.2 (bkD m)) : Good f vs (bkD m) := by
  rw [← sndD_len] at c
  have nd := sndD_nodup k (bkD m)
  have sp := len_split (fun a => decide (a < (f : Int))) (sndD L (bkD m))
  have l1 : ((sndD L (bkD m)).filter fun a => decide (a < (f : Int))).length ≤ f := in_range_len (lo := 0) (nd.sublist List.filter_sublist) fun a ha => by
    obtain ⟨h1, h2⟩ := List.mem_filter.mp ha
    obtain ⟨e, he, rfl, _⟩ := sndD_mem h1
    have := h e he
    have := of_decide_eq_true h2
    omega
  have l2 : ((sndD L (bkD m)).filter fun a => !decide (a < (f : Int))).length ≤ (HV f vs (bkD m)).length := nodup_len (nd.sublist List.filter_sublist) fun a ha => by
    obtain ⟨h1, h2⟩ := List.mem_filter.mp ha
    obtain ⟨e, he, rfl, h3⟩ := sndD_mem h1
    have h4 := h e he
    have h5 : ¬ e.1 < (f : Int) := by simpa using h2
    refine List.mem_filter.mpr ⟨iota_mem (by omega), ?_⟩
    rw [← h4.2.2 (by omega)]
    exact h3
  unfold Good
  omega
theorem goodR {f : Nat} {vs : List VD} {L : Sub} {m : Int} (k : kOk L) (h : ∀ e ∈ L, 0 ≤ e.1 ∧ e.1 < 3 * (f : Int) + 1 ∧ DOk e.2.2 ∧ ((f : Int) ≤ e.1 → Good f vs e.2.2)) (c : f + 1 ≤ L.countP fun e => PyData.eqv e.2.2 (bkD m)) : Good f vs (bkD m) := by
  rw [← sndD_len] at c
  have nd := sndD_nodup k (bkD m)
  by_cases ex : ∃ a ∈ sndD L (bkD m), (f : Int) ≤ a
  · obtain ⟨a, ha, le⟩ := ex
    obtain ⟨e, he, rfl, h3⟩ := sndD_mem ha
    obtain ⟨_, _, h4, h5⟩ := h e he
    rw [← dok_eqv h4 h3]
    exact h5 le
  · have := in_range_len (lo := 0) (n := f) nd fun a ha => by
      have : ¬ (f : Int) ≤ a := fun z => ex ⟨a, ha, z⟩
      obtain ⟨e, he, rfl, _⟩ := sndD_mem ha
      have := h e he
      omega
    omega

/-! ### a notary among the others -/
def In3 {α : Type} (t : List (Int × α)) : Prop := ∀ k ∈ t, k.1 = 3
theorem in3_len {α : Type} {t : List (Int × α)} (h : In3 t) (k : kOk t) : t.length ≤ 1 := by
  have := nodup_len (ys := [3]) k fun a m => by
    obtain ⟨y, hy, rfl⟩ := List.mem_map.mp m
    rw [h y hy]; exact List.mem_singleton.mpr rfl
  rw [List.length_map] at this
  exact this
theorem in3_add {t : TD} {d0 : Addr} {snd : Int} {b : VD} (h : In3 t) : In3 (tAdd t d0 3 snd b) := fun k m => by
  unfold tAdd at m
  split at m
  · rcases List.mem_append.mp m with m | m
    · exact h k m
    · rw [List.mem_singleton.mp m]
  · split at m
    · rcases pA_mem m with rfl | ⟨m, _⟩
      · rfl
      · exact h k m
    · exact h k m
structure Hn (f : Nat) (vs : List VD) (x : NS) : Prop where
  ef : x.f = f
  fg : x.fg = 0
  v3 : In3 x.v
  r3 : In3 x.r
  a : ∀ e ∈ subA x.v 3, 0 ≤ e.1 ∧ e.1 < 3 * (f : Int) + 1 ∧ ((f : Int) ≤ e.1 → e.2.2 = vD vs e.1.toNat)
  b : ∀ e ∈ subA x.r 3, 0 ≤ e.1 ∧ e.1 < 3 * (f : Int) + 1 ∧ DOk e.2.2 ∧ ((f : Int) ≤ e.1 → Good f vs e.2.2)
  s : ∀ e ∈ x.s, e.1 = 3 ∧ ∃ m, e.2.2 = bkD m ∧ Good f vs e.2.2
  n : ∀ e ∈ x.n, e.1 = 3 ∧ ∃ m, e.2.2 = bkD m ∧ Good f vs e.2.2
theorem kOk_subA {C : Addr} {K : PySem.W.Frag} {H : Hp} {p B : Addr} {t : TD} (h : TaAt C K H p B t) (e : Int) : kOk (subA t e) := by
  unfold subA
  cases g : gA t e with
  | none => exact List.nodup_nil
  | some ds => exact (h.sub _ (gA_some g)).kk
theorem subs_le {C : Addr} {K : PySem.W.Frag} {H : Hp} {p B : Addr} {t : TD} {n : Nat} (h : TaAt C K H p B t) (h3 : In3 t) (q : ∀ e ∈ subA t 3, 0 ≤ e.1 ∧ e.1 < (n : Int)) : ∀ e ∈ t, e.2.2.length ≤ n := fun e m => by
  have e1 : subA t 3 = e.2.2 := by
    have := gA_mem h.kk m
    rw [h3 e m] at this
    unfold subA; rw [this]; rfl
  rw [e1] at q
  have := in_range_len (lo := 0) (n := n) (h.sub e m).kk fun a ha => by
    obtain ⟨y, hy, rfl⟩ := List.mem_map.mp ha
    have := q y hy
    omega
  rw [List.length_map] at this
  exact this
theorem Hn.few {Cn Ct Cg p : Addr} {K : PySem.W.Frag} {H : Hp} {f : Nat} {vs : List VD} {x : NS} (h : Hn f vs x) (no : NoAt Cn Ct Cg K H p x) (hf : f ≤ 2) : x.few 900 := by
  have lv := in3_len h.v3 no.ta.kk
  have lr := in3_len h.r3 no.tr.kk
  have ls := in3_len (fun e m => (h.s e m).1) no.ss.kk
  have ln := in3_len (fun e m => (h.n e m).1) no.sn.kk
  refine ⟨by omega, by omega, fun e m => ?_, fun e m => ?_, by omega, by omega⟩
  · have := subs_le (n := 3 * f + 1) no.ta h.v3 (fun e m => by have := h.a e m; omega) e m; omega
  · have := subs_le (n := 3 * f + 1) no.tr h.r3 (fun e m => by have := h.b e m; omega) e m; omega
theorem kOk_snoc {s : Sub} {snd : Int} {b : VD} (k : kOk s) (h : gA s snd = none) : kOk (s ++ [(snd, b)]) := by
  have := pA_ok snd b k
  rw [gA_of_none h] at this
  exact this
theorem gA_isN {s : Sub} {k : Int} (h : (gA s k).isNone = true) : gA s k = none := by
  cases g : gA s k with
  | none => rfl
  | some y => rw [g] at h; cases h
theorem setD_mem {s : Sub} {e : Int} {b : VD} : ∀ k ∈ setD s e b, k ∈ s ∨ k = (e, b) := fun k m => by
  unfold setD at m
  split at m
  · rcases List.mem_append.mp m with m | m
    · exact .inl m
    · exact .inr (List.mem_singleton.mp m)
  · exact .inl m
/-- judging, where the counts are as they may be -/
theorem Hn.judge {f : Nat} {vs : List VD} {y : NS} {b : VD} {m : Int} (hb : b.2 = bkD m) (h : Hn f vs y) (kv : kOk (subA y.v 3)) (kr : kOk (subA y.r 3)) : Hn f vs (y.judge b) := by
  have gr : ∀ t, f + 1 ≤ t → t ≤ cnt y.r 3 (bkD m) → Good f vs (bkD m) := fun t h1 h2 => goodR kr h.b (by unfold cnt at h2; omega)
  have gv : 2 * f + 1 ≤ cnt y.v 3 (bkD m) → Good f vs (bkD m) := fun h2 => goodV kv h.a h2
  have e3 : epD b.2 = 3 := by rw [hb]; rfl
  have hf := h.ef
  refine { h with s := fun e me => ?_, n := fun e me => ?_ }
  · have me : e ∈ (if cnt y.v (epD b.2) b.2 ≥ 2 * y.f + 1 ∨ cnt y.r (epD b.2) b.2 ≥ y.f + 1 then setD y.s (epD b.2) b else y.s) := me
    rw [e3, hb, hf] at me
    split at me
    · rename_i z
      rcases setD_mem e me with me | rfl
      · exact h.s e me
      · refine ⟨rfl, m, hb, ?_⟩
        show Good f vs b.2
        rw [hb]
        rcases z with z | z
        · exact gv z
        · exact gr _ (Nat.le_refl _) z
    · exact h.s e me
  · have me : e ∈ (if cnt y.r (epD b.2) b.2 ≥ 2 * y.f + 1 then setD y.n (epD b.2) b else y.n) := me
    rw [e3, hb, hf] at me
    split at me
    · rename_i z
      rcases setD_mem e me with me | rfl
      · exact h.n e me
      · refine ⟨rfl, m, hb, ?_⟩
        show Good f vs b.2
        rw [hb]
        exact gr _ (by omega) z
    · exact h.n e me
theorem Hn.vote {Cn Ct Cg p : Addr} {K : PySem.W.Frag} {H : Hp} {f : Nat} {vs : List VD} {x : NS} {d0 : Addr} {snd m : Int} {b : VD} (h : Hn f vs x) (no : NoAt Cn Ct Cg K H p x) (hb : b.2 = bkD m)
    (hs : 0 ≤ snd ∧ snd < 3 * (f : Int) + 1) (hv : (f : Int) ≤ snd → b.2 = vD vs snd.toNat) : Hn f vs (x.vote d0 snd b) := by
  have e3 : epD b.2 = 3 := by rw [hb]; rfl
  unfold NS.vote
  rw [e3]
  split
  · rename_i z
    obtain ⟨_, hn⟩ := z
    have sa := subA_add (d0 := d0) (b := b) no.ta.kk hn
    have s3 : subA (tAdd x.v d0 3 snd b) 3 = subA x.v 3 ++ [(snd, b)] := by rw [sa, if_pos rfl]
    refine Hn.judge (y := { x with v := tAdd x.v d0 3 snd b }) hb { h with v3 := in3_add h.v3, a := fun e me => ?_ } ?_ (kOk_subA no.tr 3)
    · have me : e ∈ subA (tAdd x.v d0 3 snd b) 3 := me
      rw [s3] at me
      rcases List.mem_append.mp me with me | me
      · exact h.a e me
      · rw [List.mem_singleton.mp me]
        exact ⟨hs.1, hs.2, hv⟩
    · show kOk (subA (tAdd x.v d0 3 snd b) 3)
      rw [s3]
      exact kOk_snoc (kOk_subA no.ta 3) (gA_isN hn)
  · exact h
theorem Hn.ready {Cn Ct Cg p : Addr} {K : PySem.W.Frag} {H : Hp} {f : Nat} {vs : List VD} {x : NS} {d0 : Addr} {snd m : Int} {b : VD} (h : Hn f vs x) (no : NoAt Cn Ct Cg K H p x) (hb : b.2 = bkD m)
    (hs : 0 ≤ snd ∧ snd < 3 * (f : Int) + 1) (hv : (f : Int) ≤ snd → Good f vs b.2) : Hn f vs (x.ready d0 snd b) := by
  have e3 : epD b.2 = 3 := by rw [hb]; rfl
  unfold NS.ready
  rw [e3]
  split
  · rename_i z
    obtain ⟨_, hn⟩ := z
    have sa := subA_add (d0 := d0) (b := b) no.tr.kk hn
    have s3 : subA (tAdd x.r d0 3 snd b) 3 = subA x.r 3 ++ [(snd, b)] := by rw [sa, if_pos rfl]
    refine Hn.judge (y := { x with r := tAdd x.r d0 3 snd b }) hb { h with r3 := in3_add h.r3, b := fun e me => ?_ } (kOk_subA no.ta 3) ?_
    · have me : e ∈ subA (tAdd x.r d0 3 snd b) 3 := me
      rw [s3] at me
      rcases List.mem_append.mp me with me | me
      · exact h.b e me
      · rw [List.mem_singleton.mp me]
        exact ⟨hs.1, hs.2, .inr ⟨m, hb⟩, hv⟩
    · show kOk (subA (tAdd x.r d0 3 snd b) 3)
      rw [s3]
      exact kOk_snoc (kOk_subA no.tr 3) (gA_isN hn)
  · exact h
/-! ### all of them -/
/-- only the list at N is another -/
structure Ls (N : Addr) (H H' : Hp) : Prop where
  at_ : ∃ xs, H N = some (.lst xs)
  k : ∀ b o, b ≠ N → H b = some o → H' b = some o
theorem Ls.ne {p a : Addr} {H H' : Hp} {o : HO} (h : Ls p H H') (e : H a = some o) (n : ∀ xs, o ≠ .lst xs) : a ≠ p := fun z => by
  obtain ⟨xs, g⟩ := h.at_
  rw [← z, e] at g
  exact n _ (Option.some.inj g)
theorem Ls.tp {p : Addr} {H H' : Hp} (h : Ls p H H') : Tp H H' := fun a xs e => h.k _ _ (h.ne e (by intro _ z; cases z)) e
theorem Ls.sub {p a : Addr} {K : PySem.W.Frag} {H H' : Hp} {s : Sub} (h : Ls p H H') (t : SubAt K H a s) : SubAt K H' a s :=
  { t with at_ := h.k _ _ (h.ne t.at_ (by intro _ z; cases z)) t.at_, ok := fun x m => (t.ok x m).tp h.tp }
theorem Ls.ins {p a C dx : Addr} {H H' : Hp} {fs : List (Str × V)} (h : Ls p H H') (e : H a = some (.ins C dx fs)) : H' a = some (.ins C dx fs) := h.k _ _ (h.ne e (by intro _ z; cases z)) e
theorem Ls.ta {p q B C : Addr} {K : PySem.W.Frag} {H H' : Hp} {t : TD} (h : Ls p H H') (x : TaAt C K H q B t) : TaAt C K H' q B t :=
  { x with ins := x.ins.imp fun _ e => h.ins e, top := h.k _ _ (h.ne x.top (by intro _ z; cases z)) x.top, sub := fun e m => h.sub (x.sub e m) }
theorem Ls.no {Cn Ct Cg p N : Addr} {K : PySem.W.Frag} {H H' : Hp} {x : NS} (h : Ls N H H') (q : NoAt Cn Ct Cg K H p x) : NoAt Cn Ct Cg K H' p x :=
  { q with ins := q.ins.imp fun _ e => h.ins e, gr := q.gr.imp fun _ e => h.ins e, ta := h.ta q.ta, tr := h.ta q.tr, ss := h.sub q.ss, sn := h.sub q.sn }
theorem ls_upd {N : Addr} {H : Hp} {xs : List V} {o : HO} (e : H N = some (.lst xs)) : Ls N H (upd H N o) := ⟨⟨xs, e⟩, fun b u n g => by rw [upd_ne n]; exact g⟩
structure Wd (Cn Ct Cg : Addr) (K : PySem.W.Frag) (H : Hp) (f : Nat) (vs : List VD) (ps : List Addr) (xs : List NS) : Prop where
  lx : xs.length = ps.length
  no : ∀ (k : Nat) (p : Addr) (x : NS), ps[k]? = some p → xs[k]? = some x → NoAt Cn Ct Cg K H p x
  ap : ∀ (j k : Nat) (x y : NS), xs[j]? = some x → xs[k]? = some y → j ≠ k → ∀ a ∈ x.own, a ∉ y.own
  hn : ∀ (k : Nat) (x : NS), xs[k]? = some x → Hn f vs x
theorem Wd.on {Cn Ct Cg : Addr} {K : PySem.W.Frag} {H H' : Hp} {f : Nat} {vs : List VD} {ps : List Addr} {xs : List NS} (h : Wd Cn Ct Cg K H f vs ps xs) (s : Same H H') : Wd Cn Ct Cg K H' f vs ps xs :=
  { h with no := fun k p x e1 e2 => (h.no k p x e1 e2).on s }
theorem Wd.ls {Cn Ct Cg N : Addr} {K : PySem.W.Frag} {H H' : Hp} {f : Nat} {vs : List VD} {ps : List Addr} {xs : List NS} (h : Wd Cn Ct Cg K H f vs ps xs) (s : Ls N H H') : Wd Cn Ct Cg K H' f vs ps xs :=
  { h with no := fun k p x e1 e2 => s.no (h.no k p x e1 e2) }
theorem Wd.at_ {Cn Ct Cg : Addr} {K : PySem.W.Frag} {H : Hp} {f : Nat} {vs : List VD} {ps : List Addr} {xs : List NS} (h : Wd Cn Ct Cg K H f vs ps xs) {k : Nat} (hk : k < ps.length) : ∃ p x, ps[k]? = some p ∧ xs[k]? = some x ∧ NoAt Cn Ct Cg K H p x ∧ Hn f vs x := by
  have e1 : ps[k]? = some ps[k] := List.getElem?_eq_getElem hk
  have hk2 : k < xs.length := by rw [h.lx]; exact hk
  have e2 : xs[k]? = some xs[k] := List.getElem?_eq_getElem hk2
  exact ⟨_, _, e1, e2, h.no k _ _ e1 e2, h.hn k _ e2⟩
/-- the notary at k has changed -/
theorem Wd.step {Cn Ct Cg : Addr} {K : PySem.W.Frag} {H H' : Hp} {f : Nat} {vs : List VD} {ps : List Addr} {xs : List NS} {k : Nat} {p : Addr} {x y : NS} (h : Wd Cn Ct Cg K H f vs ps xs) (e1 : ps[k]? = some p) (e2 : xs[k]? = some x) (b : But x.own H H') (ow : ∀ a ∈ y.own, a ∈ x.own ∨ H a = none) (no : NoAt Cn Ct Cg K H' p y) (hn : Hn f vs y) : Wd Cn Ct Cg K H' f vs ps (xs.set k y) := by
  have nx := h.no k p x e1 e2
  have hk : k < xs.length := (List.getElem?_eq_some_iff.mp e2).1
  have apart : ∀ (j : Nat) (z : NS), j ≠ k → xs[j]? = some z → ∀ a ∈ y.own, a ∉ z.own := fun j z ne ez a m mz => by
    rcases ow a m with m | m
    · exact h.ap k j x z e2 ez (fun q => ne q.symm) a m mz
    · have hj : j < xs.length := (List.getElem?_eq_some_iff.mp ez).1
      obtain ⟨pj, ej⟩ : ∃ pj, ps[j]? = some pj := ⟨_, List.getElem?_eq_getElem (by rw [← h.lx]; exact hj)⟩
      obtain ⟨o, eo⟩ := (h.no j pj z ej ez).some_ mz
      rw [m] at eo; cases eo
  refine ⟨by rw [List.length_set, h.lx], fun j q z e3 e4 => ?_, fun j i z z' e3 e4 ne a m => ?_, fun j z e3 => ?_⟩
  · by_cases jk : j = k
    · subst jk
      rw [List.getElem?_set_self hk] at e4
      cases e4
      rw [e1] at e3
      cases e3
      exact no
    · rw [List.getElem?_set_ne (fun q => jk q.symm)] at e4
      exact (h.no j q z e3 e4).frame b nx.dk fun a m mx => h.ap j k z x e4 e2 jk a m mx
  · by_cases jk : j = k
    · subst jk
      rw [List.getElem?_set_self hk] at e3
      cases e3
      rw [List.getElem?_set_ne ne] at e4
      exact apart i z' (fun q => ne q.symm) e4 a m
    · rw [List.getElem?_set_ne (fun q => jk q.symm)] at e3
      by_cases ik : i = k
      · subst ik
        rw [List.getElem?_set_self hk] at e4
        cases e4
        exact fun my => apart j z jk e3 a my m
      · rw [List.getElem?_set_ne (fun q => ik q.symm)] at e4
        exact h.ap j i z z' e3 e4 ne a m
  · by_cases jk : j = k
    · subst jk
      rw [List.getElem?_set_self hk] at e3
      cases e3
      exact hn
    · rw [List.getElem?_set_ne (fun q => jk q.symm)] at e3
      exact h.hn j z e3
/-- one more -/
theorem Wd.new {Cn Ct Cg : Addr} {K : PySem.W.Frag} {H H' : Hp} {f : Nat} {vs : List VD} {ps : List Addr} {xs : List NS} {p : Addr} {x : NS} (h : Wd Cn Ct Cg K H f vs ps xs) (s : Same H H') (ow : ∀ a ∈ x.own, H a = none) (no : NoAt Cn Ct Cg K H' p x) (hn : Hn f vs x) : Wd Cn Ct Cg K H' f vs (ps ++ [p]) (xs ++ [x]) := by
  have ix : ∀ {j : Nat} {z : NS}, (xs ++ [x])[j]? = some z → (j < xs.length ∧ xs[j]? = some z) ∨ (j = xs.length ∧ z = x) := fun {j z} e => by
    by_cases hj : j < xs.length
    · rw [List.getElem?_append_left hj] at e
      exact .inl ⟨hj, e⟩
    · rw [List.getElem?_append_right (by omega)] at e
      obtain ⟨h1, h2⟩ := List.getElem?_eq_some_iff.mp e
      have h1 : j - xs.length < 1 := h1
      have z0 : j - xs.length = 0 := by omega
      simp only [z0] at h2
      exact .inr ⟨by omega, h2.symm⟩
  have fresh : ∀ {j : Nat} {z : NS}, xs[j]? = some z → ∀ a ∈ z.own, a ∉ x.own := fun {j z} ez a m mx => by
    have hj : j < xs.length := (List.getElem?_eq_some_iff.mp ez).1
    obtain ⟨pj, ej⟩ : ∃ pj, ps[j]? = some pj := ⟨_, List.getElem?_eq_getElem (by rw [← h.lx]; exact hj)⟩
    obtain ⟨o, eo⟩ := (h.no j pj z ej ez).some_ m
    rw [ow a mx] at eo; cases eo
  refine ⟨by rw [List.length_append, List.length_append, h.lx]; rfl, fun j q z e3 e4 => ?_, fun j i z z' e3 e4 ne a m => ?_, fun j z e3 => ?_⟩
  · rcases ix e4 with ⟨hj, e4⟩ | ⟨hj, rfl⟩
    · rw [List.getElem?_append_left (by rw [← h.lx]; exact hj)] at e3
      exact (h.no j q z e3 e4).on s
    · rw [hj, h.lx, List.getElem?_append_right (Nat.le_refl _), Nat.sub_self] at e3
      cases e3
      exact no
  · rcases ix e3 with ⟨hj, e3⟩ | ⟨hj, hz⟩
    · rcases ix e4 with ⟨hi, e5⟩ | ⟨hi, hx⟩
      · exact h.ap j i z z' e3 e5 ne a m
      · rw [hx]; exact fresh e3 a m
    · rw [hz] at m
      rcases ix e4 with ⟨hi, e5⟩ | ⟨hi, hx⟩
      · exact fun mz => fresh e5 a mz m
      · omega
  · rcases ix e3 with ⟨hj, e3⟩ | ⟨hj, rfl⟩
    · exact h.hn j z e3
    · exact hn

/-! ### the law's lists beside the notaries -/
def VOk (K : PySem.W.Frag) (H : Hp) (b : VD) : Prop := b = (V.non, PyData.none) ∨ ∃ m, b.2 = bkD m ∧ OkD K H b
def POk (K : PySem.W.Frag) (H : Hp) (f : Nat) (vs : List VD) (b : VD) : Prop := b = (V.non, PyData.none) ∨ ∃ m, b.2 = bkD m ∧ OkD K H b ∧ Good f vs b.2
theorem VOk.tp {K : PySem.W.Frag} {H H' : Hp} {b : VD} (h : VOk K H b) (t : Tp H H') : VOk K H' b := by
  rcases h with h | ⟨m, h1, h2⟩
  · exact .inl h
  · exact .inr ⟨m, h1, h2.tp t⟩
theorem POk.tp {K : PySem.W.Frag} {H H' : Hp} {f : Nat} {vs : List VD} {b : VD} (h : POk K H f vs b) (t : Tp H H') : POk K H' f vs b := by
  rcases h with h | ⟨m, h1, h2, h3⟩
  · exact .inl h
  · exact .inr ⟨m, h1, h2.tp t, h3⟩
theorem VOk.dok {K : PySem.W.Frag} {H : Hp} {b : VD} (h : VOk K H b) : DOk b.2 := by
  rcases h with rfl | ⟨m, h1, _⟩
  · exact .inl rfl
  · exact .inr ⟨m, h1⟩
/-- all but dicts and instances stay -/
def Li (H H' : Hp) : Prop := ∀ b o, (∀ C dx fs, o ≠ .ins C dx fs) → (∀ kv, o ≠ .dK kv) → (∀ kv, o ≠ .dT kv) → H b = some o → H' b = some o
theorem Li.trans {H H1 H2 : Hp} (a : Li H H1) (b : Li H1 H2) : Li H H2 := fun c o n1 n2 n3 e => b c o n1 n2 n3 (a c o n1 n2 n3 e)
theorem Same.li {H H' : Hp} (s : Same H H') : Li H H' := fun b o _ _ _ e => s b o e
theorem But.li {S : List Addr} {H H' : Hp} (b : But S H H') (d : DkS S H) : Li H H' := fun c o _ n2 n3 e => b c o (fun m => by
  rcases d c m o e with ⟨kv, z⟩ | ⟨kv, z⟩
  · exact n2 kv z
  · exact n3 kv z) e
theorem Li.lst {H H' : Hp} {a : Addr} {xs : List V} (s : Li H H') (e : H a = some (.lst xs)) : H' a = some (.lst xs) := s _ _ (by intro _ _ _ z; cases z) (by intro _ z; cases z) (by intro _ z; cases z) e
theorem Li.tp {H H' : Hp} (s : Li H H') : Tp H H' := fun a xs e => s _ _ (by intro _ _ _ z; cases z) (by intro _ z; cases z) (by intro _ z; cases z) e
structure Ev (Cn Ct Cg : Addr) (K : PySem.W.Frag) (H : Hp) (f : Nat) (N Vl Pl : Addr) (ps : List Addr) (xs : List NS) (vs prs : List VD) : Prop where
  wd : Wd Cn Ct Cg K H f vs ps xs
  lp : ps.length = 3 * f + 1
  lv : vs.length = 3 * f + 1
  lr : prs.length = 3 * f + 1
  nn : H N = some (.lst (ps.map V.ref))
  vv : H Vl = some (.lst (vs.map (·.1)))
  pp : H Pl = some (.lst (prs.map (·.1)))
  vo : ∀ b ∈ vs, VOk K H b
  po : ∀ b ∈ prs, POk K H f vs b
  f1 : 1 ≤ f
  f2 : f ≤ 2
theorem Ev.on {Cn Ct Cg N Vl Pl : Addr} {K : PySem.W.Frag} {H H' : Hp} {f : Nat} {ps : List Addr} {xs : List NS} {vs prs : List VD} (h : Ev Cn Ct Cg K H f N Vl Pl ps xs vs prs) (s : Same H H') : Ev Cn Ct Cg K H' f N Vl Pl ps xs vs prs :=
  { h with wd := h.wd.on s, nn := s _ _ h.nn, vv := s _ _ h.vv, pp := s _ _ h.pp, vo := fun b m => (h.vo b m).tp (Same.tp s), po := fun b m => (h.po b m).tp (Same.tp s) }
theorem Ev.step {Cn Ct Cg N Vl Pl : Addr} {K : PySem.W.Frag} {H H' : Hp} {f : Nat} {ps : List Addr} {xs : List NS} {vs prs : List VD} {k : Nat} {p : Addr} {x y : NS} (h : Ev Cn Ct Cg K H f N Vl Pl ps xs vs prs)
    (e1 : ps[k]? = some p) (e2 : xs[k]? = some x) (b : But x.own H H') (ow : ∀ a ∈ y.own, a ∈ x.own ∨ H a = none) (no : NoAt Cn Ct Cg K H' p y) (hn : Hn f vs y) : Li H H' ∧ Ev Cn Ct Cg K H' f N Vl Pl ps (xs.set k y) vs prs := by
  have li := b.li (h.wd.no k p x e1 e2).dk
  exact ⟨li, { h with wd := h.wd.step e1 e2 b ow no hn, nn := li.lst h.nn, vv := li.lst h.vv, pp := li.lst h.pp, vo := fun b m => (h.vo b m).tp li.tp, po := fun b m => (h.po b m).tp li.tp }⟩
theorem Ev.dok {Cn Ct Cg N Vl Pl : Addr} {K : PySem.W.Frag} {H : Hp} {f : Nat} {ps : List Addr} {xs : List NS} {vs prs : List VD} (h : Ev Cn Ct Cg K H f N Vl Pl ps xs vs prs) (k : Nat) : DOk (vD vs k) := by
  unfold vD
  by_cases hk : k < vs.length
  · rw [List.getD_eq_getElem?_getD, List.getElem?_eq_getElem hk]
    exact (h.vo _ (List.getElem_mem hk)).dok
  · rw [List.getD_eq_getElem?_getD, List.getElem?_eq_none (by omega)]
    exact .inl rfl
def spDel (Cn Ct Cg : Addr) (K : PySem.W.Frag) : Sp := fun as H Q _ => ∃ (N Vl Pl : Addr) (d : Int) (f : Nat) (ps : List Addr) (xs : List NS) (vs prs : List VD), as = [.ref N, .ref Vl, .ref Pl, .int d, .int f] ∧ Ev Cn Ct Cg K H f N Vl Pl ps xs vs prs ∧ 0 ≤ d ∧
  ∀ H' xs', Li H H' → Ev Cn Ct Cg K H' f N Vl Pl ps xs' vs prs → Q .non H'
section
variable {P : Program} {w : World} {K : PySem.W.Frag} {mg : Str → Option Value} {base : Heap}
theorem c__law_deliver {C_Tally : Addr} {C_Notary : Addr} {C_Group : Addr} {C_BadGroup : Addr} (T : Txt K mg C_Tally C_Notary C_Group C_BadGroup) : Cal P w K mg base 5 "_law_deliver" (spDel C_Notary C_Tally C_Group K) [] := by
  have c__law_block := c__law_block (P := P) (w := w) (K := K) (base := base) T
  have m_Notary__add_vote := m_Notary__add_vote (P := P) (w := w) (K := K) (base := base) T
  have m_Notary__add_ready := m_Notary__add_ready (P := P) (w := w) (K := K) (base := base) T
  refine cal T.d__law_deliver sc__law_deliver (fun vs H Q E h => ?_) (fun f cdv A outer s H vs Q E hr h => ?_)
  · obtain ⟨N, Vl, Pl, d, f, ps, xs, vs, prs, rfl, _⟩ := h; rfl
  obtain ⟨N, Vl, Pl, d, f, ps, xs, vs, prs, rfl, ev, hd, q⟩ := h
  refine ⟨_, (pss_cons (ps_set (i := 5) sc__law_deliver.nd rfl (Or.inl rfl) (pe_op op_add (pe_op op_mul pe_int (pv 4)) pe_int))
      (pss_cons (ps_set (i := 6) sc__law_deliver.nd rfl (Or.inl rfl) (pe_op op_mod (pv 3) (pv 5)))
      (pss_cons (ps_set (i := 7) sc__law_deliver.nd rfl (Or.inl rfl) (pe_op op_mod (pe_op op_fdiv (pv 3) (pv 5)) (pv 5)))
      (pss_cons (ps_set (i := 8) sc__law_deliver.nd rfl (Or.inl rfl) (pe_op op_mod (pe_op op_fdiv (pv 3) (pe_op op_mul (pv 5) (pv 5))) pe_int))
      (pss_cons (ps_if (pt_cmpR op_lt (pv 7) (pv 4) (nomark _)) (pss_one ps_retN) pss_nil)
      (pss_one (ps_if (pt_cmpR op_lt (pv 6) (pv 4) (nomark _)) (pss_cons (ps_set (i := 9) sc__law_deliver.nd rfl (Or.inl rfl) (pe_c c__law_block hr (by decide) (by rfl) (pa_cons (pe_op op_fdiv (pv 3) pe_int) pa_nil)))
      (pss_one (ps_if (pt_cmpR op_eq (pe_op op_mod (pv 8) pe_int) pe_int (nomark _)) (pss_one (ps_expr (pe_mt m_Notary__add_vote hr (by decide) (pe_ix (kixl (K := K)) (pv 0) (pv 7) (fun _ _ => rfl)) (pa_cons (pv 6) (pa_cons (pv 9) pa_nil))))) (pss_one (ps_expr (pe_mt m_Notary__add_ready hr (by decide) (pe_ix (kixl (K := K)) (pv 0) (pv 7) (fun _ _ => rfl)) (pa_cons (pv 6) (pa_cons (pv 9) pa_nil)))))))) (pss_one (ps_if (PW.pt (pw_and (pt_cmpR op_lt (pv 8) pe_int (nomark _)) (pw_and1 (pt_cmpR op_notN (pe_ix (kixl (K := K)) (pv 1) (pv 6) (fun _ _ => rfl)) pe_non (nomark _))))) (pss_one (ps_expr (pe_mt m_Notary__add_vote hr (by decide) (pe_ix (kixl (K := K)) (pv 0) (pv 7) (fun _ _ => rfl)) (pa_cons (pv 6) (pa_cons (pe_ix (kixl (K := K)) (pv 1) (pv 6) (fun _ _ => rfl)) pa_nil))))) (pss_one (ps_if (pt_cmpR op_notN (pe_ix (kixl (K := K)) (pv 2) (pv 6) (fun _ _ => rfl)) pe_non (nomark _)) (pss_one (ps_expr (pe_mt m_Notary__add_ready hr (by decide) (pe_ix (kixl (K := K)) (pv 0) (pv 7) (fun _ _ => rfl)) (pa_cons (pv 6) (pa_cons (pe_ix (kixl (K := K)) (pv 2) (pv 6) (fun _ _ => rfl)) pa_nil))))) pss_nil))))))))))), ?_⟩
  have f1 := ev.f1
  have f2 := ev.f2
  obtain ⟨M, hM⟩ : ∃ M : Nat, 3 * (f : Int) + 1 = M := ⟨3 * f + 1, by omega⟩
  have hM' : M = 3 * f + 1 := by omega
  obtain ⟨sd, hsd⟩ : ∃ sd : Nat, d % (M : Int) = sd := Int.eq_ofNat_of_zero_le (Int.emod_nonneg _ (by omega))
  obtain ⟨rc, hrc⟩ : ∃ rc : Nat, d / (M : Int) % (M : Int) = rc := Int.eq_ofNat_of_zero_le (Int.emod_nonneg _ (by omega))
  have ls : sd < M := by have := Int.emod_lt_of_pos d (show 0 < (M : Int) by omega); omega
  have lr : rc < M := by have := Int.emod_lt_of_pos (d / (M : Int)) (show 0 < (M : Int) by omega); omega
  walk_at "rds"
  refine ⟨by rcases (show f = 1 ∨ f = 2 by omega) with rfl | rfl <;> exact ⟨by decide, by decide⟩, ?_⟩
  have hsd' : (fun i j => V.int (i % j)) d (3 * (f : Int) + 1) = V.int sd := congrArg V.int (by rw [hM]; exact hsd)
  have hrc' : (fun i j => V.int (i % j)) (d / (3 * (f : Int) + 1)) (3 * (f : Int) + 1) = V.int rc := congrArg V.int (by rw [hM]; exact hrc)
  rw [hsd', hrc']
  obtain ⟨kd, hkd⟩ : ∃ kd : Int, d / ((3 * (f : Int) + 1) * (3 * (f : Int) + 1)) % 4 = kd := ⟨_, rfl⟩
  walk_at "rds"
  have hkd' : (fun i j => V.int (i % j)) (d / ((3 * (f : Int) + 1) * (3 * (f : Int) + 1))) 4 = V.int kd := congrArg V.int hkd
  rw [hkd']
  obtain ⟨p, x, e1, e2, no, hn⟩ := ev.wd.at_ (k := rc) (by rw [ev.lp]; omega)
  obtain ⟨dn, gn⟩ := no.ins
  have ip : (ps.map V.ref)[rc]? = some (V.ref p) := by rw [List.getElem?_map, e1]; rfl
  refine ite2 (fun e => ?_) (fun e => ?_)
  · exact q _ _ (Same.li (Same.refl _)) ev
  · walk_at "rds"
    refine ite2 (fun e9 => ?_) (fun e9 => ?_)
    · have e9 : (sd : Int) < (f : Int) := of_decide_eq_true e9
      walk_at "rds"
      intro H1 bv s1 okb
      have ev1 := ev.on s1
      have no1 := no.on s1
      have li1 := Same.li s1
      have gn1 := s1 _ _ gn
      walk_at "rds"
      refine ite2 (fun e8 => ?_) (fun e8 => ?_)
      · walk_at "rds"
        refine ⟨N, _, _, _, rfl, rfl, sq ev1.nn, atI_nat ip, ?_⟩
        refine ⟨p, dn, _, rfl, gn1, rfl, ?_⟩
        walk_at "rds"
        refine ⟨p, x, sd, (bv, bkD (d / 500)), rfl, no1, okb, bkD_is _, hn.few no1 f2, fun H' d0 ow b no2 => ?_⟩
        obtain ⟨li, ev2⟩ := ev1.step e1 e2 b ow no2 (hn.vote no1 (m := d / 500) rfl (by omega) (by omega))
        exact q _ _ (li1.trans li) ev2
      · walk_at "rds"
        refine ⟨N, _, _, _, rfl, rfl, sq ev1.nn, atI_nat ip, ?_⟩
        refine ⟨p, dn, _, rfl, gn1, rfl, ?_⟩
        walk_at "rds"
        refine ⟨p, x, sd, (bv, bkD (d / 500)), rfl, no1, okb, bkD_is _, hn.few no1 f2, fun H' d0 ow b no2 => ?_⟩
        obtain ⟨li, ev2⟩ := ev1.step e1 e2 b ow no2 (hn.ready no1 (m := d / 500) rfl (by omega) (by omega))
        exact q _ _ (li1.trans li) ev2
    · have e9 : ¬ (sd : Int) < (f : Int) := fun z => e9 (decide_eq_true z)
      have lsv : sd < vs.length := by rw [ev.lv]; omega
      have lsp : sd < prs.length := by rw [ev.lr]; omega
      have iv : (vs.map (·.1))[sd]? = some vs[sd].1 := by rw [List.getElem?_map, List.getElem?_eq_getElem lsv]; rfl
      have ipr : (prs.map (·.1))[sd]? = some prs[sd].1 := by rw [List.getElem?_map, List.getElem?_eq_getElem lsp]; rfl
      have evd : vs[sd].2 = vD vs (sd : Int).toNat := by
        unfold vD
        rw [Int.toNat_natCast, List.getD_eq_getElem?_getD, List.getElem?_eq_getElem lsv]; rfl
      walk_at "rds"
      refine ite2 (fun e8 => ?_) (fun e8 => ?_)
      · walk_at "rds"
        refine ⟨Vl, _, _, _, rfl, rfl, sq ev.vv, atI_nat iv, ?_⟩
        refine ⟨rfl, ?_⟩
        rcases ev.vo _ (List.getElem_mem lsv) with hb | ⟨m, hb, okb⟩
        · rw [hb]
          refine ⟨_, rfl, ifF rfl ?_⟩
          walk_at "rds"
          refine ⟨Pl, _, _, _, rfl, rfl, sq ev.pp, atI_nat ipr, ?_⟩
          refine ⟨rfl, ?_⟩
          rcases ev.po _ (List.getElem_mem lsp) with hb | ⟨m, hb, okb, gd⟩
          · rw [hb]
            refine ⟨_, rfl, ifF rfl ?_⟩
            exact q _ _ (Same.li (Same.refl _)) ev
          · have nn : prs[sd].1 ≠ V.non := fun z => by
              have h1 := okb.dt
              rw [z, hb] at h1
              cases h1
            refine ⟨_, rfl, ifT (by rw [decide_eq_false nn]; rfl) ?_⟩
            walk_at "rds"
            refine ⟨N, _, _, _, rfl, rfl, sq ev.nn, atI_nat ip, ?_⟩
            refine ⟨p, dn, _, rfl, gn, rfl, ?_⟩
            walk_at "rds"
            refine ⟨Pl, _, _, _, rfl, rfl, sq ev.pp, atI_nat ipr, ?_⟩
            walk_at "rds"
            refine ⟨p, x, sd, prs[sd], rfl, no, okb, (by rw [hb]; exact bkD_is _), hn.few no f2, fun H' d0 ow b no2 => ?_⟩
            obtain ⟨li, ev2⟩ := ev.step e1 e2 b ow no2 (hn.ready no (m := m) hb (by omega) (fun _ => gd))
            exact q _ _ li ev2
        · have nn : vs[sd].1 ≠ V.non := fun z => by
            have h1 := okb.dt
            rw [z, hb] at h1
            cases h1
          refine ⟨_, rfl, ifT (by rw [decide_eq_false nn]; rfl) ?_⟩
          walk_at "rds"
          refine ⟨N, _, _, _, rfl, rfl, sq ev.nn, atI_nat ip, ?_⟩
          refine ⟨p, dn, _, rfl, gn, rfl, ?_⟩
          walk_at "rds"
          refine ⟨Vl, _, _, _, rfl, rfl, sq ev.vv, atI_nat iv, ?_⟩
          walk_at "rds"
          refine ⟨p, x, sd, vs[sd], rfl, no, okb, (by rw [hb]; exact bkD_is _), hn.few no f2, fun H' d0 ow b no2 => ?_⟩
          obtain ⟨li, ev2⟩ := ev.step e1 e2 b ow no2 (hn.vote no (m := m) hb (by omega) (fun _ => evd))
          exact q _ _ li ev2
      · walk_at "rds"
        refine ⟨Pl, _, _, _, rfl, rfl, sq ev.pp, atI_nat ipr, ?_⟩
        refine ⟨rfl, ?_⟩
        rcases ev.po _ (List.getElem_mem lsp) with hb | ⟨m, hb, okb, gd⟩
        · rw [hb]
          refine ⟨_, rfl, ifF rfl ?_⟩
          exact q _ _ (Same.li (Same.refl _)) ev
        · have nn : prs[sd].1 ≠ V.non := fun z => by
            have h1 := okb.dt
            rw [z, hb] at h1
            cases h1
          refine ⟨_, rfl, ifT (by rw [decide_eq_false nn]; rfl) ?_⟩
          walk_at "rds"
          refine ⟨N, _, _, _, rfl, rfl, sq ev.nn, atI_nat ip, ?_⟩
          refine ⟨p, dn, _, rfl, gn, rfl, ?_⟩
          walk_at "rds"
          refine ⟨Pl, _, _, _, rfl, rfl, sq ev.pp, atI_nat ipr, ?_⟩
          walk_at "rds"
          refine ⟨p, x, sd, prs[sd], rfl, no, okb, (by rw [hb]; exact bkD_is _), hn.few no f2, fun H' d0 ow b no2 => ?_⟩
          obtain ⟨li, ev2⟩ := ev.step e1 e2 b ow no2 (hn.ready no (m := m) hb (by omega) (fun _ => gd))
          exact q _ _ li ev2
end
theorem Ev.put {Cn Ct Cg N Vl Pl : Addr} {K : PySem.W.Frag} {H : Hp} {f : Nat} {ps : List Addr} {xs : List NS} {vs prs : List VD} {k : Nat} {b : VD} (h : Ev Cn Ct Cg K H f N Vl Pl ps xs vs prs) (n1 : N ≠ Pl) (n2 : Vl ≠ Pl) (hb : POk K H f vs b) :
    Ev Cn Ct Cg K (upd H Pl (.lst ((prs.set k b).map (·.1)))) f N Vl Pl ps xs vs (prs.set k b) := by
  have ls := ls_upd (o := .lst ((prs.set k b).map (·.1))) h.pp
  exact { h with
    wd := h.wd.ls ls, lr := by rw [List.length_set, h.lr], nn := ls.k _ _ n1 h.nn, vv := ls.k _ _ n2 h.vv, pp := upd_same
    vo := fun b m => (h.vo b m).tp ls.tp
    po := fun c m => by
      rcases List.mem_or_eq_of_mem_set m with m | rfl
      · exact (h.po c m).tp ls.tp
      · exact hb.tp ls.tp }

theorem set_last {α : Type} (xs : List α) (a b : α) {i : Nat} (h : xs.length = i) : (xs ++ [a]).set i b = xs ++ [b] := by
  subst h; simp
theorem ixN_in {l i : Nat} (h : i < l) : ixN l (i : Int) = some i := by
  unfold ixN
  rw [if_pos (by omega), if_pos (by omega)]
  simp
section
variable {P : Program} {w : World} {K : PySem.W.Frag} {mg : Str → Option Value} {base : Heap}
theorem ok_law {C_Tally : Addr} {C_Notary : Addr} {C_Group : Addr} {C_BadGroup : Addr} {f : Addr} {fd : FuncData} (F : L2.Fun K "law" "law" s_law f fd) (T : Txt K mg C_Tally C_Notary C_Group C_BadGroup) : FnOk P w K mg base L2.CX0 8 f fd ["script"] (spLaw K) := by
  have c__law_cell := c__law_cell (P := P) (w := w) (base := base) T
  have c__law_draws := c__law_draws (P := P) (w := w) (base := base) T
  have c__law_block := c__law_block (P := P) (w := w) (K := K) (base := base) T
  have c__law_shift := c__law_shift (P := P) (w := w) (base := base) T
  have c__law_deliver := c__law_deliver (P := P) (w := w) (K := K) (base := base) T
  have k_Group := k_Group (P := P) (w := w) (base := base) T
  have k_Notary := k_Notary (P := P) (w := w) (base := base) T
  have m_Notary__add_vote := m_Notary__add_vote (P := P) (w := w) (base := base) T
  have m_Notary__add_ready := m_Notary__add_ready (P := P) (w := w) (base := base) T
  have m_Notary__supported := m_Notary__supported (P := P) (w := w) (K := K) (base := base) T
  have m_Notary__notarized := m_Notary__notarized (P := P) (w := w) (K := K) (base := base) T
  refine F.ok sc_law (fun vs H Q E h => ?_) (fun cdv A outer s H vs Q E hr h => ?_)
  · obtain ⟨a, ns, rfl, _⟩ := h; rfl
  obtain ⟨a, ns, rfl, hS, hlen, q⟩ := h
  refine ⟨_, (pss_cons (ps_set (i := 1) sc_law.nd rfl (Or.inr rfl) (pe_op op_add pe_int (pe_op op_mod (pe_c c__law_cell hr (by decide) (by rfl) (pa_cons (pv 0) (pa_cons pe_int pa_nil))) pe_int)))
      (pss_cons (ps_set (i := 2) sc_law.nd rfl (Or.inl rfl) (pe_op op_add (pe_op op_mul pe_int (pv 1)) pe_int))
      (pss_cons (ps_set (i := 3) sc_law.nd rfl (Or.inr rfl) (pe_lc (own := [("k", 5)]) (g := gName 5) (by rfl) sc_law.nd (pi_range1 (by rfl) T.z_range (pa_cons (pv 2) pa_nil)) (blkOk_by (own := [("k", 5)]) (N := ["script", "faults", "machines", "notaries", "votes", "k", "choice", "promised", "draws", "sweep", "draw", "found", "block"]) (sc := defScope s_law) (by decide +kernel)) (fun _ _ _ _ _ => pg_name (i := 5) sc_law.nd rfl (Or.inl rfl)) (fun _ _ _ _ _ => pts_nil) (fun _ _ _ _ _ => (pe_mk k_Notary hr (by decide) (by rfl) (pa_cons (pe_mkX k_Group hr (by decide) (by rfl) no_pass (pa_cons (pv 1) pa_nil)) pa_nil)))))
      (pss_cons (ps_set (i := 4) sc_law.nd rfl (Or.inr rfl) (pe_lst pa_nil))
      (pss_cons (ps_for PassesOwn.never rfl (pi_range1 (by rfl) T.z_range (pa_cons (pv 2) pa_nil)) (pg_name (i := 5) sc_law.nd rfl (Or.inl rfl)) (pss_cons (ps_set (i := 6) sc_law.nd rfl (Or.inl rfl) (pe_op op_mod (pe_c c__law_shift hr (by decide) (by rfl) (pa_cons (pe_c c__law_cell hr (by decide) (by rfl) (pa_cons (pv 0) (pa_cons pe_int pa_nil))) (pa_cons pe_int (pa_cons (pv 5) pa_nil)))) pe_int))
      (pss_cons (ps_expr (pe_bm PySem.F.plainAttrs_list PySem.F.slot_list_append PySem.F.type_list_append mt_append (pv 4) (pa_cons (pe_c c__law_block hr (by decide) (by rfl) (pa_cons (pv 6) pa_nil)) pa_nil)))
      (pss_one (ps_if (pt_cmpR op_eq (pv 6) pe_int (nomark _)) (pss_cons (ps_asg (pe_c c__law_block hr (by decide) (by rfl) (pa_cons pe_int pa_nil)) (pg_sub (pv 4) (pv 5) set_list))
      (pss_one (ps_if (pt_cmpR op_eq (pe_op op_mod (pv 5) pe_int) pe_int (nomark _)) (pss_one (ps_asg pe_non (pg_sub (pv 4) (pv 5) set_list))) pss_nil))) pss_nil)))))
      (pss_cons (ps_setLc (i := 7) (own := [("k", 5)]) (g := gName 5) rfl sc_law.nd rfl rfl (sw_true rfl rfl rfl (by decide +kernel)) (pi_range1 (by rfl) T.z_range (pa_cons (pv 2) pa_nil)) (blkOk_by (own := [("k", 5)]) (N := ["script", "faults", "machines", "notaries", "votes", "k", "choice", "promised", "draws", "sweep", "draw", "found", "block"]) (sc := defScope s_law) (by decide +kernel)) (fun _ _ _ _ _ => pg_name (i := 5) sc_law.nd rfl (Or.inl rfl)) (fun _ _ _ _ _ => pts_nil) (fun _ _ _ _ _ => pe_non))
      (pss_cons (ps_set (i := 8) sc_law.nd rfl (Or.inl rfl) (pe_c c__law_draws hr (by decide) (by rfl) (pa_cons (pv 0) (pa_cons pe_int (pa_cons pe_int pa_nil)))))
      (pss_cons (ps_setLc (i := 9) (own := [("k", 5)]) (g := gName 5) rfl sc_law.nd rfl rfl (sw_true rfl rfl rfl (by decide +kernel)) (pi_range1 (by rfl) T.z_range (pa_cons (pe_op op_mul (pe_op op_mul (pv 2) (pv 2)) pe_int) pa_nil)) (blkOk_by (own := [("k", 5)]) (N := ["script", "faults", "machines", "notaries", "votes", "k", "choice", "promised", "draws", "sweep", "draw", "found", "block"]) (sc := defScope s_law) (by decide +kernel)) (fun _ _ _ _ _ => pg_name (i := 5) sc_law.nd rfl (Or.inl rfl)) (fun _ _ _ _ _ => pts_nil) (fun _ _ _ _ _ => (pv 5)))
      (pss_cut (ps_if (pt_cmpR op_gt (pe_op op_mod (pe_op op_fdiv (pe_c c__law_cell hr (by decide) (by rfl) (pa_cons (pv 0) (pa_cons pe_int pa_nil))) pe_int) pe_int) pe_int (nomark _)) (pss_one (ps_set (i := 8) sc_law.nd rfl (Or.inl rfl) (pe_op op_cat (pv 8) (pv 9)))) pss_nil)
      (pss_cons (ps_for PassesOwn.never rfl (pi_list (pv 8)) (pg_name (i := 10) sc_law.nd rfl (Or.inl rfl)) (pss_cons (ps_expr (pe_c c__law_deliver hr (by decide) (by rfl) (pa_cons (pv 3) (pa_cons (pv 4) (pa_cons (pv 7) (pa_cons (pv 10) (pa_cons (pv 1) pa_nil)))))))
      (pss_one (ps_for PassesOwn.never rfl (pi_range2 (by rfl) T.z_range (pa_cons (pv 1) (pa_cons (pv 2) pa_nil))) (pg_name (i := 5) sc_law.nd rfl (Or.inl rfl)) (pss_one (ps_if (PW.pt (pw_and (pt_cmpR op_isN (pe_ix (kixl (K := K)) (pv 7) (pv 5) (fun _ _ => rfl)) pe_non (nomark _)) (pw_and1 (pt_cmpR op_notN (pe_mt m_Notary__supported hr (by decide) (pe_ix (kixl (K := K)) (pv 3) (pv 5) (fun _ _ => rfl)) (pa_cons pe_int pa_nil)) pe_non (nomark _))))) (pss_cons (ps_asg (pe_mt m_Notary__supported hr (by decide) (pe_ix (kixl (K := K)) (pv 3) (pv 5) (fun _ _ => rfl)) (pa_cons pe_int pa_nil)) (pg_sub (pv 7) (pv 5) set_list))
      (pss_one (ps_expr (pe_mt m_Notary__add_ready hr (by decide) (pe_ix (kixl (K := K)) (pv 3) (pv 5) (fun _ _ => rfl)) (pa_cons (pv 5) (pa_cons (pe_ix (kixl (K := K)) (pv 7) (pv 5) (fun _ _ => rfl)) pa_nil)))))) pss_nil))))))
      (pss_cons (ps_setLc (i := 11) (own := [("k", 5)]) (g := gName 5) rfl sc_law.nd rfl rfl (sw_true rfl rfl rfl (by decide +kernel)) (pi_range2 (by rfl) T.z_range (pa_cons (pv 1) (pa_cons (pv 2) pa_nil))) (blkOk_by (own := [("k", 5)]) (N := ["script", "faults", "machines", "notaries", "votes", "k", "choice", "promised", "draws", "sweep", "draw", "found", "block"]) (sc := defScope s_law) (by decide +kernel)) (fun _ _ _ _ _ => pg_name (i := 5) sc_law.nd rfl (Or.inl rfl)) (fun _ _ _ _ _ => pts_nil) (fun _ _ _ _ _ => (pe_mt m_Notary__notarized hr (by decide) (pe_ix (kixl (K := K)) (pv 3) (pv 5) (fun _ _ => rfl)) (pa_cons pe_int pa_nil))))
      (pss_cons (ps_setLc (i := 11) (own := [("block", 12)]) (g := gName 12) rfl sc_law.nd rfl rfl (sw_true rfl rfl rfl (by decide +kernel)) (pi_list (pv 11)) (blkOk_by (own := [("block", 12)]) (N := ["script", "faults", "machines", "notaries", "votes", "k", "choice", "promised", "draws", "sweep", "draw", "found", "block"]) (sc := defScope s_law) (by decide +kernel)) (fun _ _ _ _ _ => pg_name (i := 12) sc_law.nd rfl (Or.inl rfl)) (fun _ _ _ _ _ => pts_one (pt_cmpR op_notN (pv 12) pe_non (nomark _))) (fun _ _ _ _ _ => (pv 12)))
      (pss_cons (ps_for PassesOwn.never rfl (pi_list (pv 11)) (pg_name (i := 12) sc_law.nd rfl (Or.inr rfl)) (pss_cons (ps_if (pt_cmpR (op_neD hr.units) (pv 12) (pe_ix (kixl (K := K)) (pv 11) pe_int (fun _ _ => rfl)) (nomark _)) (pss_one (ps_ret pe_bl)) pss_nil)
      (pss_one (ps_if (pt_cmpR op_le (pe_callB (klen (K := K)) (by rfl) T.z_len (by decide +kernel) (pa_cons (pe_lc (own := [("k", 5)]) (g := gName 5) (by rfl) sc_law.nd (pi_range2 (by rfl) T.z_range (pa_cons (pv 1) (pa_cons (pv 2) pa_nil))) (blkOk_by (own := [("k", 5)]) (N := ["script", "faults", "machines", "notaries", "votes", "k", "choice", "promised", "draws", "sweep", "draw", "found", "block"]) (sc := defScope s_law) (by decide +kernel)) (fun _ _ _ _ _ => pg_name (i := 5) sc_law.nd rfl (Or.inl rfl)) (fun _ _ _ _ _ => pts_one (pt_cmpR (keqD (K := K) (by exact hr.units)) (pe_ix (kixl (K := K)) (pv 4) (pv 5) (fun _ _ => rfl)) (pv 12) (by rfl))) (fun _ _ _ _ _ => (pv 5))) pa_nil)) (pv 1) (nomark _)) (pss_one (ps_ret pe_bl)) pss_nil))))
      (pss_one (ps_ret pe_bl))))))))))))))), ?_⟩
  obtain ⟨c, hc⟩ : ∃ c, cellA ns 0 = c := ⟨_, rfl⟩
  have hc0 : 0 ≤ c := by rw [← hc]; exact cellA_nonneg ns 0
  walk_at "rds"
  refine ⟨a, ns, 0, rfl, hS, ?_⟩
  rw [hc]
  obtain ⟨n, hn⟩ := Int.eq_ofNat_of_zero_le (show 0 ≤ 1 + c % 2 by omega)
  have hn4 : 1 ≤ n ∧ n ≤ 2 := by omega
  have hn' : (fun i j => V.int (i + j)) 1 (c % 2) = V.int (n : Int) := congrArg V.int hn
  walk_at "rds"
  rw [hn', hn]
  intro N hN
  refine lc_it walk_range (Pv := fun i H' => ∃ (ps : List Addr) (xs : List NS), Same H H' ∧ H' N = some (.lst (ps.map V.ref)) ∧ ps.length = i ∧ ∀ vs, Wd C_Notary C_Tally C_Group K H' n vs ps xs) ⟨[], [], same_upd hN, upd_same, rfl, fun vs => ⟨rfl, (by intro _ _ _ e; cases e), (by intro _ _ _ _ e; cases e), (by intro _ _ e; cases e)⟩⟩ (fun _ _ _ _ => trivial) (fun i x H6 H7 hi hp hy => ?_) (fun H6 hp => ?_)
  · obtain ⟨ps, xs, s6, e6, l6, wd⟩ := hp
    obtain ⟨rfl, rfl⟩ := hy
    refine ⟨rfl, ?_⟩
    walk_at "rds"
    intro g dx hp hdx hne
    refine ⟨g, dx, _, rfl, upd_same, .inl ⟨(n : Int), rfl, by omega, by omega, fun H1 kp gr1 => ⟨rfl, ?_⟩⟩⟩
    have s1 : Same H7 H1 := Same.made hp hdx kp
    walk_at "rds"
    intro p dp hp2 hdp hne2
    have mk : Same H1 (upd (upd H1 dp (.own p)) p (.ins C_Notary dp [])) := (same_upd hdp).trans (same_upd (by rw [upd_ne hne2.symm]; exact hp2))
    have hgp : g ≠ p := by
      obtain ⟨dg, e⟩ := gr1
      exact ne_of_none e hp2
    refine ⟨p, dp, g, n, rfl, upd_same, gr1.imp fun _ e => mk _ _ e, hgp, fun H2 x0 kp2 ow no0 ev er es en efg ef eg => ⟨rfl, ?_⟩⟩
    have s2 : Same H7 H2 := s1.trans (Same.made hp2 hdp kp2)
    have eN := s2 _ _ e6
    have hn0 : ∀ vs, Hn n vs x0 := fun vs => ⟨ef, efg, by rw [ev]; exact (fun _ m => nomatch m), by rw [er]; exact (fun _ m => nomatch m), by rw [ev]; exact (fun _ m => nomatch m), by rw [er]; exact (fun _ m => nomatch m), by rw [es]; exact (fun _ m => nomatch m), by rw [en]; exact (fun _ m => nomatch m)⟩
    refine ⟨_, eN, sz1000' (by rw [List.length_map, l6]; omega), ps ++ [p], xs ++ [x0], same_mut (s6.trans s2) hN, by rw [upd_same, List.map_append]; rfl, by rw [List.length_append, l6]; rfl, fun vs => ?_⟩
    exact ((wd vs).new s2 (fun a m => same_none s1 (same_none mk (ow a m))) no0 (hn0 vs)).ls (ls_upd eN)
  obtain ⟨ps, xs, s6, eN, l6, wd⟩ := hp
  walk_at "rds"
  intro Vl hV
  have nNV : N ≠ Vl := ne_of_none eN hV
  have sV := same_upd (o := .lst []) hV
  walk_at "rds"
  refine for_it walk_range (Pv := fun i σ' H' => ∃ (vs : List VD) (y5 y6 : Option V), σ' = [some (.ref a), some (.int n), some (.int (3 * (n : Int) + 1)), some (.ref N), some (.ref Vl), y5, y6, none, none, none, none, none, none] ∧ Same H6 H' ∧ H' Vl = some (.lst (vs.map (·.1))) ∧ vs.length = i ∧ ∀ b ∈ vs, VOk K H' b) ⟨[], none, none, rfl, sV, upd_same, rfl, fun _ m => nomatch m⟩ (fun _ _ _ _ _ => trivial) (fun i x σ' H7 H8 hi hp hy => ?_) (fun σ' H7 hp => ?_)
  · obtain ⟨vs, y5, y6, rfl, s7, eV, lV, vo⟩ := hp
    obtain ⟨rfl, hx⟩ := hy
    obtain rfl : x = V.int (i : Int) := hx.trans (congrArg V.int (Int.zero_add _))
    clear hx
    have hi : i < 3 * n + 1 := by omega
    walk_at "rds"
    refine ⟨a, ns, 1, rfl, (s6.trans s7).seq hS, ?_⟩
    walk_at "rds"
    refine ⟨_, 4, i, rfl, cellA_nonneg _ _, by decide, by decide, by omega, fun c2 hc2 => ?_⟩
    walk_at "rds"
    obtain ⟨ch, hch⟩ : ∃ ch : Int, c2 % 4 = ch := ⟨_, rfl⟩
    refine ⟨.inl ⟨rfl, _, sq eV⟩, ?_⟩
    walk_at "rds"
    intro H9 bv s9 okb
    have eV9 := s9 _ _ eV
    walk_at "rds"
    refine ⟨Vl, _, bv, rfl, rfl, eV9, sz1000' (by rw [List.length_map, lV]; omega), ?_⟩
    have lu := ls_upd (o := .lst (vs.map (·.1) ++ [bv])) eV9
    have eV10 : upd H9 Vl (.lst (vs.map (·.1) ++ [bv])) Vl = some (.lst (vs.map (·.1) ++ [bv])) := upd_same
    have s10 : Same H6 (upd H9 Vl (.lst (vs.map (·.1) ++ [bv]))) := same_mut (s7.trans s9) hV
    have okb := okb.tp lu.tp
    have vo : ∀ b ∈ vs, VOk K _ b := fun b m => ((vo b m).tp (Same.tp s9)).tp lu.tp
    generalize upd H9 Vl (.lst (vs.map (·.1) ++ [bv])) = H10 at eV10 s10 okb vo
    clear lu eV9 s9 eV s7
    walk_at "rds"
    refine ite2 (fun e => ?_) (fun e => ?_)
    · walk_at "rds"
      intro H11 b2 s11 ok2
      have eV11 := s11 _ _ eV10
      walk_at "rds"
      refine ⟨Vl, _, i, i, rfl, rfl, eV11, ixN_in (by rw [List.length_append, List.length_map, lV]; exact Nat.lt_succ_self _), ?_⟩
      rw [set_last _ _ _ (by rw [List.length_map, lV])]
      have lu := ls_upd (o := .lst (vs.map (·.1) ++ [b2])) eV11
      have eV12 : upd H11 Vl (.lst (vs.map (·.1) ++ [b2])) Vl = some (.lst (vs.map (·.1) ++ [b2])) := upd_same
      have s12 : Same H6 (upd H11 Vl (.lst (vs.map (·.1) ++ [b2]))) := same_mut (s10.trans s11) hV
      have ok2 := ok2.tp lu.tp
      have vo : ∀ b ∈ vs, VOk K _ b := fun b m => ((vo b m).tp (Same.tp s11)).tp lu.tp
      generalize upd H11 Vl (.lst (vs.map (·.1) ++ [b2])) = H12 at eV12 s12 ok2 vo
      walk_at "rds"
      refine ite2 (fun e => ?_) (fun e => ?_)
      · walk_at "rds"
        refine ⟨Vl, _, i, i, rfl, rfl, eV12, ixN_in (by rw [List.length_append, List.length_map, lV]; exact Nat.lt_succ_self _), ?_⟩
        rw [set_last _ _ _ (by rw [List.length_map, lV])]
        have lu := ls_upd (o := .lst (vs.map (·.1) ++ [V.non])) eV12
        exact ⟨vs ++ [(V.non, .none)], _, _, rfl, same_mut s12 hV, by rw [upd_same, List.map_append]; rfl, by rw [List.length_append, lV]; rfl, fun b m => by
          rcases List.mem_append.mp m with m | m
          · exact (vo b m).tp lu.tp
          · rw [List.mem_singleton.mp m]; exact .inl rfl⟩
      · exact ⟨vs ++ [(b2, bkD 0)], _, _, rfl, s12, by rw [eV12, List.map_append]; rfl, by rw [List.length_append, lV]; rfl, fun b m => by
          rcases List.mem_append.mp m with m | m
          · exact vo b m
          · rw [List.mem_singleton.mp m]; exact .inr ⟨0, rfl, ok2⟩⟩
    · exact ⟨vs ++ [(bv, bkD (c2 % 4))], _, _, rfl, s10, by rw [eV10, List.map_append]; rfl, by rw [List.length_append, lV]; rfl, fun b m => by
        rcases List.mem_append.mp m with m | m
        · exact vo b m
        · rw [List.mem_singleton.mp m]; exact .inr ⟨_, rfl, okb⟩⟩
  obtain ⟨vs, y5, y6, rfl, s7, eV, lV, vo⟩ := hp
  walk_at "rds"
  intro Pl hP
  refine lc_it walk_range (Pv := fun i H' => Same H7 H' ∧ H' Pl = some (.lst ((List.replicate i ((V.non, PyData.none) : VD)).map (·.1)))) ⟨same_upd hP, upd_same⟩ (fun _ _ _ _ => trivial) (fun i x H8 H9 hi hp hy => ?_) (fun H8 hp => ?_)
  · obtain ⟨s8, e8⟩ := hp
    obtain ⟨rfl, rfl⟩ := hy
    refine ⟨rfl, ?_⟩
    refine ⟨_, e8, sz1000' (by rw [List.length_map, List.length_replicate]; omega), same_mut s8 hP, ?_⟩
    rw [upd_same, List.replicate_succ', List.map_append]; rfl
  obtain ⟨s8, eP⟩ := hp
  have s68 := s7.trans s8
  have s08 := s6.trans s68
  walk_at "rds"
  refine ⟨a, ns, 2, 60, rfl, s08.seq hS, hlen, fun H10 D ds s10 hD0 hD hds hdl => ?_⟩
  walk_at "rds"
  obtain ⟨W, hW, hW2⟩ : ∃ W : Nat, (3 * (n : Int) + 1) * (3 * (n : Int) + 1) * 4 = W ∧ W ≤ 200 := by
    rcases (show n = 1 ∨ n = 2 by omega) with rfl | rfl
    · exact ⟨64, by decide, by decide⟩
    · exact ⟨196, by decide, by decide⟩
  rw [hW]
  refine ⟨by omega, by omega, fun S hS0 => ?_⟩
  refine lc_it walk_range (Pv := fun i H' => ∃ zs : List Int, Same H10 H' ∧ H' S = some (.lst (zs.map V.int)) ∧ zs.length = i ∧ ∀ z ∈ zs, 0 ≤ z) ⟨[], same_upd hS0, upd_same, rfl, fun _ m => nomatch m⟩ (fun _ _ _ _ => trivial) (fun i x H11 H12 hi hp hy => ?_) (fun H11 hp => ?_)
  · obtain ⟨zs, s11, e11, l11, z11⟩ := hp
    obtain ⟨rfl, rfl⟩ := hy
    refine ⟨rfl, ?_⟩
    walk_at "rds"
    refine ⟨_, e11, sz1000' (by rw [List.length_map, l11]; omega), zs ++ [(0 : Int) + (i : Int)], same_mut s11 hS0, by rw [upd_same, List.map_append]; rfl, by rw [List.length_append, l11]; rfl, fun z m => ?_⟩
    rcases List.mem_append.mp m with m | m
    · exact z11 z m
    · rw [List.mem_singleton.mp m]; omega
  obtain ⟨zs, s11, eS, l11, z11⟩ := hp
  rw [Int.toNat_natCast] at l11
  walk_at "rds"
  refine ⟨fun σ' H' => ∃ (D : Addr) (ds : List Int), σ' = [some (.ref a), some (.int n), some (.int (3 * (n : Int) + 1)), some (.ref N), some (.ref Vl), y5, y6, some (.ref Pl), some (.ref D), some (.ref S), none, none, none] ∧ Same H10 H' ∧ H' D = some (.lst (ds.map V.int)) ∧ (∀ d ∈ ds, 0 ≤ d) ∧ D ≠ Pl, ?_, ?_⟩
  · walk_at "rds"
    refine ⟨a, ns, 0, rfl, (s08.trans (s10.trans s11)).seq hS, ?_⟩
    rw [hc]
    walk_at "rds"
    refine ite2 (fun _ => ?_) (fun _ => ?_)
    · walk_at "rds"
      have eD := s11 _ _ hD
      refine ⟨D, S, _, _, rfl, rfl, eD, eS, sz1000 (by simp only [List.length_map]; omega), fun l3 h3 => ?_⟩
      refine ⟨l3, ds ++ zs, rfl, s11.trans (same_upd h3), by rw [upd_same, List.map_append], fun d m => ?_, (ne_of_none ((s10.trans s11) _ _ eP) h3).symm⟩
      rcases List.mem_append.mp m with m | m
      · exact (hds d m).1
      · exact z11 d m
    · exact ⟨D, ds, rfl, s11, s11 _ _ hD, fun d m => (hds d m).1, (ne_of_none eP hD0).symm⟩
  clear hD hds hdl eS z11 l11 s11
  have nNP : N ≠ Pl := ne_of_none (s7 _ _ eN) hP
  have nVP : Vl ≠ Pl := ne_of_none eV hP
  rintro σ' H12 ⟨D, ds, rfl, s12, hD, hds, nDP⟩
  have s7 : Same H7 H12 := s8.trans (s10.trans s12)
  have ev0 : Ev C_Notary C_Tally C_Group K H12 n N Vl Pl ps xs vs (List.replicate (3 * (n : Int) + 1).toNat (V.non, PyData.none)) :=
    { wd := (wd vs).on (s68.trans (s10.trans s12)), lp := by omega, lv := by omega, lr := by rw [List.length_replicate]; omega, nn := (s68.trans (s10.trans s12)) _ _ eN, vv := s7 _ _ eV, pp := (s10.trans s12) _ _ eP, vo := fun b m => (vo b m).tp (Same.tp s7), po := fun b m => .inl (List.eq_of_mem_replicate m), f1 := hn4.1, f2 := hn4.2 }
  walk_at "rds"
  refine ⟨⟨_, sq hD⟩, ?_⟩
  refine for_it (walk_list (K := K) (a := D) (xs := ds.map V.int)) (Pv := fun _ σ' H' => ∃ xs prs y5 y10, σ' = [some (.ref a), some (.int n), some (.int (3 * (n : Int) + 1)), some (.ref N), some (.ref Vl), y5, y6, some (.ref Pl), some (.ref D), some (.ref S), y10, none, none] ∧ Ev C_Notary C_Tally C_Group K H' n N Vl Pl ps xs vs prs ∧ H' D = some (.lst (ds.map V.int)) ∧ D ≠ Pl) ⟨xs, _, y5, none, rfl, ev0, hD, nDP⟩ (fun i σ' H' _ h => by obtain ⟨_, _, _, _, _, _, h, _⟩ := h; exact sq h) (fun i d σ' Ha Hb hi hp' hy => ?_) (fun σ' Ha hp' => ?_)
  · obtain ⟨xs, prs, y5, y10, rfl, ev, hD, nDP⟩ := hp'
    obtain ⟨rfl, gx⟩ := hy
    rw [List.length_map] at hi
    rw [List.getElem?_map, List.getElem?_eq_getElem hi] at gx
    obtain rfl : V.int ds[i] = d := Option.some.inj gx
    have d0 := hds _ (List.getElem_mem hi)
    generalize ds[i] = d at d0
    walk_at "rds"
    refine ⟨N, Vl, Pl, d, n, ps, xs, vs, prs, rfl, ev, d0, fun Hc xs li ev => ?_⟩
    have hD := li.lst hD
    walk_at "rds"
    refine ⟨n, 3 * (n : Int) + 1, rfl, ⟨by omega, by omega, by omega, by omega⟩, ?_⟩
    refine for_it walk_range (Pv := fun _ σ' H' => ∃ xs prs y5, σ' = [some (.ref a), some (.int n), some (.int (3 * (n : Int) + 1)), some (.ref N), some (.ref Vl), y5, y6, some (.ref Pl), some (.ref D), some (.ref S), some (.int d), none, none] ∧ Ev C_Notary C_Tally C_Group K H' n N Vl Pl ps xs vs prs ∧ H' D = some (.lst (ds.map V.int))) ⟨xs, prs, y5, rfl, ev, hD⟩ (fun _ _ _ _ _ => trivial) (fun j e σ' Hd He hj hp hy => ?_) (fun σ' Hd hp => ?_)
    · obtain ⟨xs, prs, y5, rfl, ev, hD⟩ := hp
      obtain ⟨rfl, hx⟩ := hy
      obtain rfl : e = V.int ((n + j : Nat) : Int) := hx.trans (congrArg V.int (by omega))
      clear hx
      have hk : n + j < 3 * n + 1 := by omega
      have hkp : n + j < prs.length := by rw [ev.lr]; exact hk
      obtain ⟨p, x, e1, e2, no, hn2⟩ := ev.wd.at_ (k := n + j) (by rw [ev.lp]; exact hk)
      generalize hkk : n + j = k at hk hkp e1 e2
      have ip : (ps.map V.ref)[k]? = some (V.ref p) := by rw [List.getElem?_map, e1]; rfl
      have ipr : (prs.map (·.1))[k]? = some prs[k].1 := by rw [List.getElem?_map, List.getElem?_eq_getElem hkp]; rfl
      obtain ⟨dn, gn⟩ := no.ins
      walk_at "rds"
      refine ⟨Pl, _, _, _, rfl, rfl, sq ev.pp, atI_nat ipr, ?_⟩
      refine ⟨rfl, _, rfl, ?_⟩
      by_cases pn : prs[k].1 = V.non
      · refine ifT (decide_eq_true pn) ?_
        walk_at "rds"
        refine ⟨N, _, _, _, rfl, rfl, sq ev.nn, atI_nat ip, ?_⟩
        refine ⟨p, dn, _, rfl, gn, rfl, ?_⟩
        walk_at "rds"
        refine ⟨p, x, 3, rfl, no, ?_⟩
        refine ⟨rfl, _, rfl, ?_⟩
        cases g : gA x.s 3 with
        | none =>
          refine ifF rfl ?_
          exact ⟨xs, prs, _, rfl, ev, hD⟩
        | some b =>
          have okb := no.ss.ok _ (gA_some g)
          obtain ⟨_, m, hb, gd⟩ := hn2.s _ (gA_some g)
          have nn : b.1 ≠ V.non := fun z => by
            have h1 := okb.dt
            rw [z, hb] at h1
            cases h1
          have e3 : ((gA x.s 3).map (·.1)).getD V.non = b.1 := by rw [g]; rfl
          refine ifT (by show (!decide (b.1 = V.non)) = true; rw [decide_eq_false nn]; rfl) ?_
          walk_at "rds"
          refine ⟨N, _, _, _, rfl, rfl, sq ev.nn, atI_nat ip, ?_⟩
          refine ⟨p, dn, _, rfl, gn, rfl, ?_⟩
          walk_at "rds"
          refine ⟨p, x, 3, rfl, no, ?_⟩
          rw [e3]
          walk_at "rds"
          refine ⟨Pl, _, k, k, rfl, rfl, ev.pp, ixN_in (by rw [List.length_map]; exact hkp), ?_⟩
          have ev2 := ev.put (k := k) (b := b) nNP nVP (.inr ⟨m, hb, okb, gd⟩)
          have eset : (prs.map (·.1)).set k b.1 = (prs.set k b).map (·.1) := by rw [List.map_set]
          rw [eset]
          have hD3 : upd He Pl (.lst ((prs.set k b).map (·.1))) D = some (.lst (ds.map V.int)) := by rw [upd_ne nDP]; exact hD
          have ls3 := ls_upd (o := .lst ((prs.set k b).map (·.1))) ev.pp
          have no3 := ls3.no no
          have gn3 := ls3.ins gn
          have okb3 := okb.tp ls3.tp
          have ipr3 : ((prs.set k b).map (·.1))[k]? = some b.1 := by rw [List.getElem?_map, List.getElem?_set_self hkp]; rfl
          generalize upd He Pl (.lst ((prs.set k b).map (·.1))) = H3 at ev2 hD3 no3 gn3 okb3
          walk_at "rds"
          refine ⟨N, _, _, _, rfl, rfl, sq ev2.nn, atI_nat ip, ?_⟩
          refine ⟨p, dn, _, rfl, gn3, rfl, ?_⟩
          walk_at "rds"
          refine ⟨Pl, _, _, _, rfl, rfl, sq ev2.pp, atI_nat ipr3, ?_⟩
          walk_at "rds"
          refine ⟨p, x, k, b, rfl, no3, okb3, (by rw [hb]; exact bkD_is _), hn2.few no3 hn4.2, fun H' d0 ow bu no4 => ?_⟩
          obtain ⟨li, ev3⟩ := ev2.step e1 e2 bu ow no4 (hn2.ready no3 (m := m) hb (by omega) (fun _ => gd))
          exact ⟨_, _, _, rfl, ev3, li.lst hD3⟩
      · refine ifF (decide_eq_false pn) ?_
        refine ifF rfl ?_
        exact ⟨xs, prs, _, rfl, ev, hD⟩
    · obtain ⟨xs, prs, y5, rfl, ev, hD⟩ := hp
      exact ⟨xs, prs, y5, _, rfl, ev, hD, nDP⟩
  obtain ⟨xs, prs, y5, y10, rfl, ev, hD, nDP⟩ := hp'
  walk_at "rds"
  refine ⟨n, 3 * (n : Int) + 1, rfl, ⟨by omega, by omega, by omega, by omega⟩, fun F hF => ?_⟩
  refine lc_it walk_range (Pv := fun i H' => ∃ fs : List VD, Same Ha H' ∧ H' F = some (.lst (fs.map (·.1))) ∧ fs.length = i ∧ ∀ b ∈ fs, POk K H' n vs b) ⟨[], same_upd hF, upd_same, rfl, fun _ m => nomatch m⟩ (fun _ _ _ _ => trivial) (fun j e H8 H9 hj hp hy => ?_) (fun H8 hp => ?_)
  · obtain ⟨fs, s8, e8, l8, f8⟩ := hp
    obtain ⟨rfl, hx⟩ := hy
    obtain rfl : e = V.int ((n + j : Nat) : Int) := hx.trans (congrArg V.int (by omega))
    clear hx
    have hk : n + j < 3 * n + 1 := by omega
    have ev := ev.on s8
    obtain ⟨p, x, e1, e2, no, hn2⟩ := ev.wd.at_ (k := n + j) (by rw [ev.lp]; exact hk)
    have ip : (ps.map V.ref)[n + j]? = some (V.ref p) := by rw [List.getElem?_map, e1]; rfl
    obtain ⟨dn, gn⟩ := no.ins
    refine ⟨rfl, ?_⟩
    walk_at "rds"
    refine ⟨N, _, _, _, rfl, rfl, sq ev.nn, atI_nat ip, ?_⟩
    refine ⟨p, dn, _, rfl, gn, rfl, ?_⟩
    walk_at "rds"
    refine ⟨p, x, 3, rfl, no, ?_⟩
    have okf : ∃ b : VD, ((gA x.n 3).map (·.1)).getD V.non = b.1 ∧ POk K H9 n vs b := by
      cases g : gA x.n 3 with
      | none => exact ⟨(V.non, .none), rfl, .inl rfl⟩
      | some b =>
        obtain ⟨_, m, hb, gd⟩ := hn2.n _ (gA_some g)
        exact ⟨b, rfl, .inr ⟨m, hb, no.sn.ok _ (gA_some g), gd⟩⟩
    obtain ⟨b, eb, pb⟩ := okf
    rw [eb]
    have ls3 := ls_upd (o := .lst ((fs ++ [b]).map (·.1))) e8
    have em : fs.map (·.1) ++ [b.1] = (fs ++ [b]).map (·.1) := by rw [List.map_append]; rfl
    refine ⟨_, e8, sz1000' (by rw [List.length_map, l8]; omega), fs ++ [b], ?_⟩
    rw [em]
    refine ⟨same_mut s8 hF, upd_same, by rw [List.length_append, l8]; rfl, fun c m => ?_⟩
    rcases List.mem_append.mp m with m | m
    · exact (f8 c m).tp ls3.tp
    · rw [List.mem_singleton.mp m]; exact pb.tp ls3.tp
  obtain ⟨fs, s8, e8, l8, f8⟩ := hp
  have ev := ev.on s8
  walk_at "rds"
  refine ⟨⟨_, sq e8⟩, fun G hG => ?_⟩
  refine lc_it (walk_list (K := K) (a := F) (xs := fs.map (·.1))) (Pv := fun i H' => ∃ gs : List VD, Same H8 H' ∧ H' G = some (.lst (gs.map (·.1))) ∧ gs.length ≤ i ∧ ∀ b ∈ gs, ∃ m, b.2 = bkD m ∧ OkD K H' b ∧ Good n vs b.2) ⟨[], same_upd hG, upd_same, Nat.le_refl _, fun _ m => nomatch m⟩ (fun _ _ _ h => by obtain ⟨_, h, _⟩ := h; exact sq (h _ _ e8)) (fun j e H9 H10 hj hp hy => ?_) (fun H9 hp => ?_)
  · obtain ⟨gs, s9, e9, l9, g9⟩ := hp
    obtain ⟨rfl, gx⟩ := hy
    rw [List.length_map] at hj
    rw [List.getElem?_map, List.getElem?_eq_getElem hj] at gx
    obtain rfl : fs[j].1 = e := Option.some.inj gx
    have pb := (f8 _ (List.getElem_mem hj)).tp (Same.tp s9)
    generalize fs[j] = b at pb
    refine ⟨rfl, ?_⟩
    walk_at "rds"
    rcases pb with rfl | ⟨m, hb, okb, gd⟩
    · refine ifF rfl ?_
      exact ⟨gs, s9, e9, Nat.le_succ_of_le l9, g9⟩
    · have nn : b.1 ≠ V.non := fun z => by
        have h1 := okb.dt
        rw [z, hb] at h1
        cases h1
      refine ifT (by rw [decide_eq_false nn]; rfl) ?_
      walk_at "rds"
      have ls3 := ls_upd (o := .lst ((gs ++ [b]).map (·.1))) e9
      have em : gs.map (·.1) ++ [b.1] = (gs ++ [b]).map (·.1) := by rw [List.map_append]; rfl
      refine ⟨_, e9, sz1000' (by rw [List.length_map]; omega), gs ++ [b], ?_⟩
      rw [em]
      refine ⟨same_mut s9 hG, upd_same, by rw [List.length_append]; exact Nat.succ_le_succ l9, fun c m2 => ?_⟩
      rcases List.mem_append.mp m2 with m2 | m2
      · obtain ⟨m', a1, a2, a3⟩ := g9 c m2
        exact ⟨m', a1, a2.tp ls3.tp, a3⟩
      · rw [List.mem_singleton.mp m2]; exact ⟨m, hb, okb.tp ls3.tp, gd⟩
  obtain ⟨gs, s9, e9, l9, g9⟩ := hp
  have ev := ev.on s9
  walk_at "rds"
  refine ⟨⟨_, sq e9⟩, ?_⟩
  refine for_it (walk_list (K := K) (a := G) (xs := gs.map (·.1))) (Pv := fun _ σ' H' => Same H9 H' ∧ ∃ y12, σ' = [some (.ref a), some (.int n), some (.int (3 * (n : Int) + 1)), some (.ref N), some (.ref Vl), y5, y6, some (.ref Pl), some (.ref D), some (.ref S), y10, some (.ref G), y12]) ⟨Same.refl _, none, rfl⟩ (fun _ _ _ _ h => sq (h.1 _ _ e9)) (fun j e σ' H10 H11 hj hp hy => ?_) (fun σ' H10 hp => ?_)
  · obtain ⟨s10, y12, rfl⟩ := hp
    obtain ⟨rfl, gx⟩ := hy
    rw [List.length_map] at hj
    rw [List.getElem?_map, List.getElem?_eq_getElem hj] at gx
    obtain rfl : gs[j].1 = e := Option.some.inj gx
    obtain ⟨m, hb, okb, gd⟩ := g9 _ (List.getElem_mem hj)
    have h0 : 0 < gs.length := by omega
    obtain ⟨m0, hb0, okb0, gd0⟩ := g9 _ (List.getElem_mem h0)
    have i0 : (gs.map (·.1))[0]? = some gs[0].1 := by rw [List.getElem?_map, List.getElem?_eq_getElem h0]; rfl
    have okb := okb.tp (Same.tp s10)
    have okb0 := okb0.tp (Same.tp s10)
    generalize gs[j] = b at hb okb gd
    generalize gs[0] = b0 at hb0 okb0 gd0 i0
    rw [hb] at gd
    rw [hb0] at gd0
    have eqd : bkD m = bkD m0 := good_eq ev.dok gd gd0
    have ev := ev.on s10
    walk_at "rds"
    refine ⟨G, _, 0, _, rfl, rfl, sq (s10 _ _ e9), atI_nat (j := 0) i0, ?_⟩
    refine ⟨_, _, Dt.dp _ _ okb.dt, Dt.dp _ _ okb0.dt, (shpL (okb.ly.mono (by decide))).1, (shpL (okb0.ly.mono (by decide))).1, ?_⟩
    have es : PyData.eqv b.2 b0.2 = true := by rw [hb, hb0, ← eqd]; exact (shpL ((bkD_ly m).mono (by decide))).2
    refine ⟨_, rfl, ifF (by rw [es]; rfl) ?_⟩
    walk_at "rds"
    refine ⟨n, 3 * (n : Int) + 1, rfl, ⟨by omega, by omega, by omega, by omega⟩, fun C hC => ?_⟩
    refine lc_it walk_range (Pv := fun i H' => ∃ ks : List Int, Same H11 H' ∧ H' C = some (.lst (ks.map V.int)) ∧ ks.length = ((iota n i).filter fun k => PyData.eqv (vD vs k.toNat) (bkD m)).length ∧ ks.length ≤ i) ⟨[], same_upd hC, upd_same, rfl, Nat.le_refl _⟩ (fun _ _ _ _ => trivial) (fun j2 e H12 H13 hj2 hp hy => ?_) (fun H12 hp => ?_)
    · obtain ⟨ks, s12, e12, l12, k12⟩ := hp
      obtain ⟨rfl, hx⟩ := hy
      obtain rfl : e = V.int ((n + j2 : Nat) : Int) := hx.trans (congrArg V.int (by omega))
      clear hx
      have hk : n + j2 < vs.length := by rw [ev.lv]; omega
      have iv : (vs.map (·.1))[n + j2]? = some vs[n + j2].1 := by rw [List.getElem?_map, List.getElem?_eq_getElem hk]; rfl
      have ev := ev.on s12
      have okb := okb.tp (Same.tp s12)
      have evd : vs[n + j2].2 = vD vs (n + j2) := by
        unfold vD
        rw [List.getD_eq_getElem?_getD, List.getElem?_eq_getElem hk]; rfl
      have io : iota n (j2 + 1) = iota n j2 ++ [((n + j2 : Nat) : Int)] := by
        unfold iota
        rw [List.range_succ, List.map_append]
        rfl
      have fil : ((iota n (j2 + 1)).filter fun k => PyData.eqv (vD vs k.toNat) (bkD m)).length = ((iota n j2).filter fun k => PyData.eqv (vD vs k.toNat) (bkD m)).length + if PyData.eqv vs[n + j2].2 (bkD m) = true then 1 else 0 := by
        rw [io, List.filter_append, List.length_append, List.filter_cons, List.filter_nil, Int.toNat_natCast, ← evd]
        split <;> rfl
      have dpv : Dp K H13 vs[n + j2].1 vs[n + j2].2 ∧ SeqAt.shaped vs[n + j2].2 = true := by
        rcases ev.vo _ (List.getElem_mem hk) with hv | ⟨m', hv, okv⟩
        · rw [hv]; exact ⟨.non, by decide +kernel⟩
        · exact ⟨Dt.dp _ _ okv.dt, (shpL (okv.ly.mono (by decide))).1⟩
      refine ⟨rfl, ?_⟩
      walk_at "rds"
      refine ⟨Vl, _, _, _, rfl, rfl, sq ev.vv, atI_nat iv, ?_⟩
      walk_at "rds"
      refine ⟨_, _, dpv.1, Dt.dp _ _ okb.dt, dpv.2, (shpL (okb.ly.mono (by decide))).1, ?_⟩
      refine ⟨_, rfl, ?_⟩
      rw [hb]
      cases qv : PyData.eqv vs[n + j2].2 (bkD m) with
      | true =>
        rw [qv, if_pos rfl] at fil
        refine ifT rfl ?_
        walk_at "rds"
        exact ⟨_, e12, sz1000' (by rw [List.length_map]; omega), ks ++ [((n + j2 : Nat) : Int)], same_mut s12 hC, by rw [upd_same, List.map_append]; rfl, by rw [fil, List.length_append, l12]; rfl, by rw [List.length_append]; exact Nat.succ_le_succ k12⟩
      | false =>
        rw [qv] at fil
        refine ifF rfl ?_
        exact ⟨ks, s12, e12, by rw [fil, l12]; rfl, Nat.le_succ_of_le k12⟩
    obtain ⟨ks, s12, e12, l12, k12⟩ := hp
    walk_at "rds"
    refine ⟨C, _, rfl, .inl (sq e12), ?_⟩
    have big : n + 1 ≤ ks.length := by
      rw [l12, show (3 * (n : Int) + 1 - (n : Int)).toNat = 2 * n + 1 by omega]
      exact gd
    walk_at "rds"
    refine ifF (decide_eq_false (by rw [List.length_map]; omega)) ?_
    exact ⟨s10.trans s12, _, rfl⟩
  obtain ⟨s10, y12, rfl⟩ := hp
  walk_at "rds"
  exact q _
end

theorem fin {C_Tally : Addr} {C_Notary : Addr} {C_Group : Addr} {C_BadGroup : Addr} {P : Program} {w : World} {K : PySem.W.Frag} {mg : Str → Option Value} {fa : Addr} (hfa : mg "law" = some (.ref fa)) (T : Txt K mg C_Tally C_Notary C_Group C_BadGroup) :
    ∃ fd : FuncData, (∀ (s : Shared) (u : Value), BindsTo s fd ⟨[u], []⟩ [("script", u)]) ∧ ∀ base : Heap, K.In base → base.Ns mainGlobals mg → FnOk P w K mg base L2.CX0 8 fa fd ["script"] (spLaw K) := by
  obtain ⟨f, fd, F, hm, b⟩ := T.d_law.ex
  cases hfa.symm.trans hm
  refine ⟨fd, fun s u => ?_, fun base _ _ => ok_law F T⟩
  obtain ⟨oc, od, kV, doc, pm, an, cdv, ct, osl, rfl, l, _⟩ := F.ex
  exact .of_eq rfl

theorem all_mk {K : PySem.W.Frag} {h : Heap} {mg : Str → Option Value} (X : K.In h) (G : h.Ns mainGlobals mg)
    {f_is_integer : Addr} {od_is_integer an_is_integer : Option Addr} {sl_is_integer : Array (Option Value)} {oc_is_integer kV_is_integer dc_is_integer pm_is_integer cd_is_integer ct_is_integer : Value}
    {f__law_cell : Addr} {od__law_cell an__law_cell : Option Addr} {sl__law_cell : Array (Option Value)} {oc__law_cell kV__law_cell dc__law_cell pm__law_cell cd__law_cell ct__law_cell : Value}
    {f__law_shift : Addr} {od__law_shift an__law_shift : Option Addr} {sl__law_shift : Array (Option Value)} {oc__law_shift kV__law_shift dc__law_shift pm__law_shift cd__law_shift ct__law_shift : Value}
    {f__law_draws : Addr} {od__law_draws an__law_draws : Option Addr} {sl__law_draws : Array (Option Value)} {oc__law_draws kV__law_draws dc__law_draws pm__law_draws cd__law_draws ct__law_draws : Value}
    {f__law_block : Addr} {od__law_block an__law_block : Option Addr} {sl__law_block : Array (Option Value)} {oc__law_block kV__law_block dc__law_block pm__law_block cd__law_block ct__law_block : Value}
    {f__law_deliver : Addr} {od__law_deliver an__law_deliver : Option Addr} {sl__law_deliver : Array (Option Value)} {oc__law_deliver kV__law_deliver dc__law_deliver pm__law_deliver cd__law_deliver ct__law_deliver : Value}
    {f_law : Addr} {od_law an_law : Option Addr} {sl_law : Array (Option Value)} {oc_law kV_law dc_law pm_law cd_law ct_law : Value}
    {C_Tally : Addr}
    {f_Tally____init__ : Addr} {od_Tally____init__ an_Tally____init__ : Option Addr} {sl_Tally____init__ : Array (Option Value)} {oc_Tally____init__ kV_Tally____init__ dc_Tally____init__ pm_Tally____init__ cd_Tally____init__ ct_Tally____init__ : Value}
    {f_Tally__add : Addr} {od_Tally__add an_Tally__add : Option Addr} {sl_Tally__add : Array (Option Value)} {oc_Tally__add kV_Tally__add dc_Tally__add pm_Tally__add cd_Tally__add ct_Tally__add : Value}
    {f_Tally__number : Addr} {od_Tally__number an_Tally__number : Option Addr} {sl_Tally__number : Array (Option Value)} {oc_Tally__number kV_Tally__number dc_Tally__number pm_Tally__number cd_Tally__number ct_Tally__number : Value}
    {C_Notary : Addr}
    {f_Notary____init__ : Addr} {od_Notary____init__ an_Notary____init__ : Option Addr} {sl_Notary____init__ : Array (Option Value)} {oc_Notary____init__ kV_Notary____init__ dc_Notary____init__ pm_Notary____init__ cd_Notary____init__ ct_Notary____init__ : Value}
    {f_Notary__add_vote : Addr} {od_Notary__add_vote an_Notary__add_vote : Option Addr} {sl_Notary__add_vote : Array (Option Value)} {oc_Notary__add_vote kV_Notary__add_vote dc_Notary__add_vote pm_Notary__add_vote cd_Notary__add_vote ct_Notary__add_vote : Value}
    {f_Notary__add_ready : Addr} {od_Notary__add_ready an_Notary__add_ready : Option Addr} {sl_Notary__add_ready : Array (Option Value)} {oc_Notary__add_ready kV_Notary__add_ready dc_Notary__add_ready pm_Notary__add_ready cd_Notary__add_ready ct_Notary__add_ready : Value}
    {f_Notary__votes : Addr} {od_Notary__votes an_Notary__votes : Option Addr} {sl_Notary__votes : Array (Option Value)} {oc_Notary__votes kV_Notary__votes dc_Notary__votes pm_Notary__votes cd_Notary__votes ct_Notary__votes : Value}
    {f_Notary__readies : Addr} {od_Notary__readies an_Notary__readies : Option Addr} {sl_Notary__readies : Array (Option Value)} {oc_Notary__readies kV_Notary__readies dc_Notary__readies pm_Notary__readies cd_Notary__readies ct_Notary__readies : Value}
    {f_Notary__supported : Addr} {od_Notary__supported an_Notary__supported : Option Addr} {sl_Notary__supported : Array (Option Value)} {oc_Notary__supported kV_Notary__supported dc_Notary__supported pm_Notary__supported cd_Notary__supported ct_Notary__supported : Value}
    {f_Notary__notarized : Addr} {od_Notary__notarized an_Notary__notarized : Option Addr} {sl_Notary__notarized : Array (Option Value)} {oc_Notary__notarized kV_Notary__notarized dc_Notary__notarized pm_Notary__notarized cd_Notary__notarized ct_Notary__notarized : Value}
    {f_Notary___judge : Addr} {od_Notary___judge an_Notary___judge : Option Addr} {sl_Notary___judge : Array (Option Value)} {oc_Notary___judge kV_Notary___judge dc_Notary___judge pm_Notary___judge cd_Notary___judge ct_Notary___judge : Value}
    {C_Group : Addr}
    {f_Group____init__ : Addr} {od_Group____init__ an_Group____init__ : Option Addr} {sl_Group____init__ : Array (Option Value)} {oc_Group____init__ kV_Group____init__ dc_Group____init__ pm_Group____init__ cd_Group____init__ ct_Group____init__ : Value}
    {C_BadGroup : Addr}
    {t_MOST_FAULTS : Tok}
    (a_is_integer : PySem.W.nsIn K mainGlobals "is_integer" = some (some (.ref f_is_integer)))
    (l_is_integer : K.lookup f_is_integer = some ⟨oc_is_integer, od_is_integer, .func (PySem.W.fnOf "is_integer" "is_integer" (defArgs s_is_integer) (defBody s_is_integer) (defScope s_is_integer) .none kV_is_integer dc_is_integer pm_is_integer an_is_integer cd_is_integer ct_is_integer), sl_is_integer⟩)
    (e_is_integer : PySem.W.codeIn K cd_is_integer "is_integer" = true)
    (k_is_integer : PySem.W.keepIn K (.ref f_is_integer) = true)
    (a__law_cell : PySem.W.nsIn K mainGlobals "_law_cell" = some (some (.ref f__law_cell)))
    (l__law_cell : K.lookup f__law_cell = some ⟨oc__law_cell, od__law_cell, .func (PySem.W.fnOf "_law_cell" "_law_cell" (defArgs s__law_cell) (defBody s__law_cell) (defScope s__law_cell) .none kV__law_cell dc__law_cell pm__law_cell an__law_cell cd__law_cell ct__law_cell), sl__law_cell⟩)
    (e__law_cell : PySem.W.codeIn K cd__law_cell "_law_cell" = true)
    (k__law_cell : PySem.W.keepIn K (.ref f__law_cell) = true)
    (a__law_shift : PySem.W.nsIn K mainGlobals "_law_shift" = some (some (.ref f__law_shift)))
    (l__law_shift : K.lookup f__law_shift = some ⟨oc__law_shift, od__law_shift, .func (PySem.W.fnOf "_law_shift" "_law_shift" (defArgs s__law_shift) (defBody s__law_shift) (defScope s__law_shift) .none kV__law_shift dc__law_shift pm__law_shift an__law_shift cd__law_shift ct__law_shift), sl__law_shift⟩)
    (e__law_shift : PySem.W.codeIn K cd__law_shift "_law_shift" = true)
    (k__law_shift : PySem.W.keepIn K (.ref f__law_shift) = true)
    (a__law_draws : PySem.W.nsIn K mainGlobals "_law_draws" = some (some (.ref f__law_draws)))
    (l__law_draws : K.lookup f__law_draws = some ⟨oc__law_draws, od__law_draws, .func (PySem.W.fnOf "_law_draws" "_law_draws" (defArgs s__law_draws) (defBody s__law_draws) (defScope s__law_draws) .none kV__law_draws dc__law_draws pm__law_draws an__law_draws cd__law_draws ct__law_draws), sl__law_draws⟩)
    (e__law_draws : PySem.W.codeIn K cd__law_draws "_law_draws" = true)
    (k__law_draws : PySem.W.keepIn K (.ref f__law_draws) = true)
    (a__law_block : PySem.W.nsIn K mainGlobals "_law_block" = some (some (.ref f__law_block)))
    (l__law_block : K.lookup f__law_block = some ⟨oc__law_block, od__law_block, .func (PySem.W.fnOf "_law_block" "_law_block" (defArgs s__law_block) (defBody s__law_block) (defScope s__law_block) .none kV__law_block dc__law_block pm__law_block an__law_block cd__law_block ct__law_block), sl__law_block⟩)
    (e__law_block : PySem.W.codeIn K cd__law_block "_law_block" = true)
    (k__law_block : PySem.W.keepIn K (.ref f__law_block) = true)
    (a__law_deliver : PySem.W.nsIn K mainGlobals "_law_deliver" = some (some (.ref f__law_deliver)))
    (l__law_deliver : K.lookup f__law_deliver = some ⟨oc__law_deliver, od__law_deliver, .func (PySem.W.fnOf "_law_deliver" "_law_deliver" (defArgs s__law_deliver) (defBody s__law_deliver) (defScope s__law_deliver) .none kV__law_deliver dc__law_deliver pm__law_deliver an__law_deliver cd__law_deliver ct__law_deliver), sl__law_deliver⟩)
    (e__law_deliver : PySem.W.codeIn K cd__law_deliver "_law_deliver" = true)
    (k__law_deliver : PySem.W.keepIn K (.ref f__law_deliver) = true)
    (a_law : PySem.W.nsIn K mainGlobals "law" = some (some (.ref f_law)))
    (l_law : K.lookup f_law = some ⟨oc_law, od_law, .func (PySem.W.fnOf "law" "law" (defArgs s_law) (defBody s_law) (defScope s_law) .none kV_law dc_law pm_law an_law cd_law ct_law), sl_law⟩)
    (e_law : PySem.W.codeIn K cd_law "law" = true)
    (k_law : PySem.W.keepIn K (.ref f_law) = true)
    (ac_Tally : PySem.W.nsIn K mainGlobals "Tally" = some (some (.ref C_Tally)))
    (pg_Tally : PySem.W.plainGet K C_Tally Str.empty = true)
    (hd_Tally : PySem.W.hasDictIn K C_Tally = true)
    (po_Tally : PySem.W.plainOver K C_Tally = true)
    (sa_Tally : PySem.W.findIn K (.ref C_Tally) "__setattr__" = some (some (.builtin "object.__setattr__")))
    (mk_Tally : PySem.W.makesIn K C_Tally = true)
    (kc_Tally : PySem.W.keepIn K (.ref C_Tally) = true)
    (na_Tally__blocks : PySem.W.findIn K (.ref C_Tally) "_blocks" = some none)
    (a_Tally____init__ : PySem.W.findIn K (.ref C_Tally) "__init__" = some (some (.ref f_Tally____init__)))
    (i_Tally____init__ : PySem.W.isFn K (.ref f_Tally____init__) = true)
    (l_Tally____init__ : K.lookup f_Tally____init__ = some ⟨oc_Tally____init__, od_Tally____init__, .func (PySem.W.fnOf "__init__" "Tally.__init__" (defArgs s_Tally____init__) (defBody s_Tally____init__) (defScope s_Tally____init__) .none kV_Tally____init__ dc_Tally____init__ pm_Tally____init__ an_Tally____init__ cd_Tally____init__ ct_Tally____init__), sl_Tally____init__⟩)
    (e_Tally____init__ : PySem.W.codeIn K cd_Tally____init__ "Tally.__init__" = true)
    (k_Tally____init__ : PySem.W.keepIn K (.ref f_Tally____init__) = true)
    (a_Tally__add : PySem.W.findIn K (.ref C_Tally) "add" = some (some (.ref f_Tally__add)))
    (i_Tally__add : PySem.W.isFn K (.ref f_Tally__add) = true)
    (l_Tally__add : K.lookup f_Tally__add = some ⟨oc_Tally__add, od_Tally__add, .func (PySem.W.fnOf "add" "Tally.add" (defArgs s_Tally__add) (defBody s_Tally__add) (defScope s_Tally__add) .none kV_Tally__add dc_Tally__add pm_Tally__add an_Tally__add cd_Tally__add ct_Tally__add), sl_Tally__add⟩)
    (e_Tally__add : PySem.W.codeIn K cd_Tally__add "Tally.add" = true)
    (k_Tally__add : PySem.W.keepIn K (.ref f_Tally__add) = true)
    (a_Tally__number : PySem.W.findIn K (.ref C_Tally) "number" = some (some (.ref f_Tally__number)))
    (i_Tally__number : PySem.W.isFn K (.ref f_Tally__number) = true)
    (l_Tally__number : K.lookup f_Tally__number = some ⟨oc_Tally__number, od_Tally__number, .func (PySem.W.fnOf "number" "Tally.number" (defArgs s_Tally__number) (defBody s_Tally__number) (defScope s_Tally__number) .none kV_Tally__number dc_Tally__number pm_Tally__number an_Tally__number cd_Tally__number ct_Tally__number), sl_Tally__number⟩)
    (e_Tally__number : PySem.W.codeIn K cd_Tally__number "Tally.number" = true)
    (k_Tally__number : PySem.W.keepIn K (.ref f_Tally__number) = true)
    (ac_Notary : PySem.W.nsIn K mainGlobals "Notary" = some (some (.ref C_Notary)))
    (pg_Notary : PySem.W.plainGet K C_Notary Str.empty = true)
    (hd_Notary : PySem.W.hasDictIn K C_Notary = true)
    (po_Notary : PySem.W.plainOver K C_Notary = true)
    (sa_Notary : PySem.W.findIn K (.ref C_Notary) "__setattr__" = some (some (.builtin "object.__setattr__")))
    (mk_Notary : PySem.W.makesIn K C_Notary = true)
    (kc_Notary : PySem.W.keepIn K (.ref C_Notary) = true)
    (na_Notary__group : PySem.W.findIn K (.ref C_Notary) "_group" = some none)
    (na_Notary__votes : PySem.W.findIn K (.ref C_Notary) "_votes" = some none)
    (na_Notary__readies : PySem.W.findIn K (.ref C_Notary) "_readies" = some none)
    (na_Notary__supported : PySem.W.findIn K (.ref C_Notary) "_supported" = some none)
    (na_Notary__notarized : PySem.W.findIn K (.ref C_Notary) "_notarized" = some none)
    (na_Notary__forgotten : PySem.W.findIn K (.ref C_Notary) "_forgotten" = some none)
    (a_Notary____init__ : PySem.W.findIn K (.ref C_Notary) "__init__" = some (some (.ref f_Notary____init__)))
    (i_Notary____init__ : PySem.W.isFn K (.ref f_Notary____init__) = true)
    (l_Notary____init__ : K.lookup f_Notary____init__ = some ⟨oc_Notary____init__, od_Notary____init__, .func (PySem.W.fnOf "__init__" "Notary.__init__" (defArgs s_Notary____init__) (defBody s_Notary____init__) (defScope s_Notary____init__) .none kV_Notary____init__ dc_Notary____init__ pm_Notary____init__ an_Notary____init__ cd_Notary____init__ ct_Notary____init__), sl_Notary____init__⟩)
    (e_Notary____init__ : PySem.W.codeIn K cd_Notary____init__ "Notary.__init__" = true)
    (k_Notary____init__ : PySem.W.keepIn K (.ref f_Notary____init__) = true)
    (a_Notary__add_vote : PySem.W.findIn K (.ref C_Notary) "add_vote" = some (some (.ref f_Notary__add_vote)))
    (i_Notary__add_vote : PySem.W.isFn K (.ref f_Notary__add_vote) = true)
    (l_Notary__add_vote : K.lookup f_Notary__add_vote = some ⟨oc_Notary__add_vote, od_Notary__add_vote, .func (PySem.W.fnOf "add_vote" "Notary.add_vote" (defArgs s_Notary__add_vote) (defBody s_Notary__add_vote) (defScope s_Notary__add_vote) .none kV_Notary__add_vote dc_Notary__add_vote pm_Notary__add_vote an_Notary__add_vote cd_Notary__add_vote ct_Notary__add_vote), sl_Notary__add_vote⟩)
    (e_Notary__add_vote : PySem.W.codeIn K cd_Notary__add_vote "Notary.add_vote" = true)
    (k_Notary__add_vote : PySem.W.keepIn K (.ref f_Notary__add_vote) = true)
    (a_Notary__add_ready : PySem.W.findIn K (.ref C_Notary) "add_ready" = some (some (.ref f_Notary__add_ready)))
    (i_Notary__add_ready : PySem.W.isFn K (.ref f_Notary__add_ready) = true)
    (l_Notary__add_ready : K.lookup f_Notary__add_ready = some ⟨oc_Notary__add_ready, od_Notary__add_ready, .func (PySem.W.fnOf "add_ready" "Notary.add_ready" (defArgs s_Notary__add_ready) (defBody s_Notary__add_ready) (defScope s_Notary__add_ready) .none kV_Notary__add_ready dc_Notary__add_ready pm_Notary__add_ready an_Notary__add_ready cd_Notary__add_ready ct_Notary__add_ready), sl_Notary__add_ready⟩)
    (e_Notary__add_ready : PySem.W.codeIn K cd_Notary__add_ready "Notary.add_ready" = true)
    (k_Notary__add_ready : PySem.W.keepIn K (.ref f_Notary__add_ready) = true)
    (a_Notary__votes : PySem.W.findIn K (.ref C_Notary) "votes" = some (some (.ref f_Notary__votes)))
    (i_Notary__votes : PySem.W.isFn K (.ref f_Notary__votes) = true)
    (l_Notary__votes : K.lookup f_Notary__votes = some ⟨oc_Notary__votes, od_Notary__votes, .func (PySem.W.fnOf "votes" "Notary.votes" (defArgs s_Notary__votes) (defBody s_Notary__votes) (defScope s_Notary__votes) .none kV_Notary__votes dc_Notary__votes pm_Notary__votes an_Notary__votes cd_Notary__votes ct_Notary__votes), sl_Notary__votes⟩)
    (e_Notary__votes : PySem.W.codeIn K cd_Notary__votes "Notary.votes" = true)
    (k_Notary__votes : PySem.W.keepIn K (.ref f_Notary__votes) = true)
    (a_Notary__readies : PySem.W.findIn K (.ref C_Notary) "readies" = some (some (.ref f_Notary__readies)))
    (i_Notary__readies : PySem.W.isFn K (.ref f_Notary__readies) = true)
    (l_Notary__readies : K.lookup f_Notary__readies = some ⟨oc_Notary__readies, od_Notary__readies, .func (PySem.W.fnOf "readies" "Notary.readies" (defArgs s_Notary__readies) (defBody s_Notary__readies) (defScope s_Notary__readies) .none kV_Notary__readies dc_Notary__readies pm_Notary__readies an_Notary__readies cd_Notary__readies ct_Notary__readies), sl_Notary__readies⟩)
    (e_Notary__readies : PySem.W.codeIn K cd_Notary__readies "Notary.readies" = true)
    (k_Notary__readies : PySem.W.keepIn K (.ref f_Notary__readies) = true)
    (a_Notary__supported : PySem.W.findIn K (.ref C_Notary) "supported" = some (some (.ref f_Notary__supported)))
    (i_Notary__supported : PySem.W.isFn K (.ref f_Notary__supported) = true)
    (l_Notary__supported : K.lookup f_Notary__supported = some ⟨oc_Notary__supported, od_Notary__supported, .func (PySem.W.fnOf "supported" "Notary.supported" (defArgs s_Notary__supported) (defBody s_Notary__supported) (defScope s_Notary__supported) .none kV_Notary__supported dc_Notary__supported pm_Notary__supported an_Notary__supported cd_Notary__supported ct_Notary__supported), sl_Notary__supported⟩)
    (e_Notary__supported : PySem.W.codeIn K cd_Notary__supported "Notary.supported" = true)
    (k_Notary__supported : PySem.W.keepIn K (.ref f_Notary__supported) = true)
    (a_Notary__notarized : PySem.W.findIn K (.ref C_Notary) "notarized" = some (some (.ref f_Notary__notarized)))
    (i_Notary__notarized : PySem.W.isFn K (.ref f_Notary__notarized) = true)
    (l_Notary__notarized : K.lookup f_Notary__notarized = some ⟨oc_Notary__notarized, od_Notary__notarized, .func (PySem.W.fnOf "notarized" "Notary.notarized" (defArgs s_Notary__notarized) (defBody s_Notary__notarized) (defScope s_Notary__notarized) .none kV_Notary__notarized dc_Notary__notarized pm_Notary__notarized an_Notary__notarized cd_Notary__notarized ct_Notary__notarized), sl_Notary__notarized⟩)
    (e_Notary__notarized : PySem.W.codeIn K cd_Notary__notarized "Notary.notarized" = true)
    (k_Notary__notarized : PySem.W.keepIn K (.ref f_Notary__notarized) = true)
    (a_Notary___judge : PySem.W.findIn K (.ref C_Notary) "_judge" = some (some (.ref f_Notary___judge)))
    (i_Notary___judge : PySem.W.isFn K (.ref f_Notary___judge) = true)
    (l_Notary___judge : K.lookup f_Notary___judge = some ⟨oc_Notary___judge, od_Notary___judge, .func (PySem.W.fnOf "_judge" "Notary._judge" (defArgs s_Notary___judge) (defBody s_Notary___judge) (defScope s_Notary___judge) .none kV_Notary___judge dc_Notary___judge pm_Notary___judge an_Notary___judge cd_Notary___judge ct_Notary___judge), sl_Notary___judge⟩)
    (e_Notary___judge : PySem.W.codeIn K cd_Notary___judge "Notary._judge" = true)
    (k_Notary___judge : PySem.W.keepIn K (.ref f_Notary___judge) = true)
    (ac_Group : PySem.W.nsIn K mainGlobals "Group" = some (some (.ref C_Group)))
    (pg_Group : PySem.W.plainGet K C_Group Str.empty = true)
    (hd_Group : PySem.W.hasDictIn K C_Group = true)
    (po_Group : PySem.W.plainOver K C_Group = true)
    (sa_Group : PySem.W.findIn K (.ref C_Group) "__setattr__" = some (some (.builtin "object.__setattr__")))
    (mk_Group : PySem.W.makesIn K C_Group = true)
    (kc_Group : PySem.W.keepIn K (.ref C_Group) = true)
    (na_Group_faults : PySem.W.findIn K (.ref C_Group) "faults" = some none)
    (na_Group_machines : PySem.W.findIn K (.ref C_Group) "machines" = some none)
    (na_Group_quorum : PySem.W.findIn K (.ref C_Group) "quorum" = some none)
    (na_Group_blocking : PySem.W.findIn K (.ref C_Group) "blocking" = some none)
    (a_Group____init__ : PySem.W.findIn K (.ref C_Group) "__init__" = some (some (.ref f_Group____init__)))
    (i_Group____init__ : PySem.W.isFn K (.ref f_Group____init__) = true)
    (l_Group____init__ : K.lookup f_Group____init__ = some ⟨oc_Group____init__, od_Group____init__, .func (PySem.W.fnOf "__init__" "Group.__init__" (defArgs s_Group____init__) (defBody s_Group____init__) (defScope s_Group____init__) .none kV_Group____init__ dc_Group____init__ pm_Group____init__ an_Group____init__ cd_Group____init__ ct_Group____init__), sl_Group____init__⟩)
    (e_Group____init__ : PySem.W.codeIn K cd_Group____init__ "Group.__init__" = true)
    (k_Group____init__ : PySem.W.keepIn K (.ref f_Group____init__) = true)
    (xa_BadGroup : PySem.W.nsIn K mainGlobals "BadGroup" = some (some (.ref C_BadGroup)))
    (xe_BadGroup : PySem.W.excIn K C_BadGroup [.type "ValueError", .type "Exception", .type "BaseException", .type "object"] "ValueError.__new__" = true)
    (xk_BadGroup : PySem.W.keepIn K (.ref C_BadGroup) = true)
    (xb_BadGroup : PySem.W.subIn K (.ref C_BadGroup) (.type "BaseException") = some true)
    (xt_BadGroup : PySem.W.typeIn K (.ref C_BadGroup) = some (.type "type"))
    (xh_BadGroup : PySem.W.hasDictIn K C_BadGroup = true)
    (u_BadGroup_BadGroup : PySem.W.subIn K (.ref C_BadGroup) (.ref C_BadGroup) = some true)
    (a_MOST_FAULTS : PySem.W.nsIn K mainGlobals "MOST_FAULTS" = some (some (.int 10 t_MOST_FAULTS)))
    (z_abs : PySem.W.nsIn K mainGlobals "abs" = some none)
    (z_bool : PySem.W.nsIn K mainGlobals "bool" = some none)
    (z_int : PySem.W.nsIn K mainGlobals "int" = some none)
    (z_isinstance : PySem.W.nsIn K mainGlobals "isinstance" = some none)
    (z_len : PySem.W.nsIn K mainGlobals "len" = some none)
    (z_list : PySem.W.nsIn K mainGlobals "list" = some none)
    (z_range : PySem.W.nsIn K mainGlobals "range" = some none) : Txt K mg C_Tally C_Notary C_Group C_BadGroup :=
  { d_is_integer := ⟨_, _, (fun_mk l_is_integer e_is_integer k_is_integer), PySem.W.mg_of X G a_is_integer, ((fun_mk (st := s_is_integer) l_is_integer e_is_integer k_is_integer).binds (ps := ["value", "least", "greatest"]) fun _ _ _ _ _ _ us hl => match us, hl with | [_, _, _], _ => rfl)⟩,
    d__law_cell := ⟨_, _, (fun_mk l__law_cell e__law_cell k__law_cell), PySem.W.mg_of X G a__law_cell, ((fun_mk (st := s__law_cell) l__law_cell e__law_cell k__law_cell).binds (ps := ["script", "k"]) fun _ _ _ _ _ _ us hl => match us, hl with | [_, _], _ => rfl)⟩,
    d__law_shift := ⟨_, _, (fun_mk l__law_shift e__law_shift k__law_shift), PySem.W.mg_of X G a__law_shift, ((fun_mk (st := s__law_shift) l__law_shift e__law_shift k__law_shift).binds (ps := ["number", "base", "times"]) fun _ _ _ _ _ _ us hl => match us, hl with | [_, _, _], _ => rfl)⟩,
    d__law_draws := ⟨_, _, (fun_mk l__law_draws e__law_draws k__law_draws), PySem.W.mg_of X G a__law_draws, ((fun_mk (st := s__law_draws) l__law_draws e__law_draws k__law_draws).binds (ps := ["script", "start", "most"]) fun _ _ _ _ _ _ us hl => match us, hl with | [_, _, _], _ => rfl)⟩,
    d__law_block := ⟨_, _, (fun_mk l__law_block e__law_block k__law_block), PySem.W.mg_of X G a__law_block, ((fun_mk (st := s__law_block) l__law_block e__law_block k__law_block).binds (ps := ["number"]) fun _ _ _ _ _ _ us hl => match us, hl with | [_], _ => rfl)⟩,
    d__law_deliver := ⟨_, _, (fun_mk l__law_deliver e__law_deliver k__law_deliver), PySem.W.mg_of X G a__law_deliver, ((fun_mk (st := s__law_deliver) l__law_deliver e__law_deliver k__law_deliver).binds (ps := ["notaries", "votes", "promised", "draw", "faults"]) fun _ _ _ _ _ _ us hl => match us, hl with | [_, _, _, _, _], _ => rfl)⟩,
    d_law := ⟨_, _, (fun_mk l_law e_law k_law), PySem.W.mg_of X G a_law, ((fun_mk (st := s_law) l_law e_law k_law).binds (ps := ["script"]) fun _ _ _ _ _ _ us hl => match us, hl with | [_], _ => rfl)⟩,
    cl_Tally := ⟨pg_Tally, hd_Tally, po_Tally, sa_Tally⟩,
    g_Tally := PySem.W.mg_of X G ac_Tally,
    na_Tally__blocks := na_Tally__blocks,
    mk_Tally := ⟨_, _, ⟨mk_Tally, a_Tally____init__, i_Tally____init__, kc_Tally⟩, (fun_mk l_Tally____init__ e_Tally____init__ k_Tally____init__), ((fun_mk (st := s_Tally____init__) l_Tally____init__ e_Tally____init__ k_Tally____init__).binds (ps := ["self"]) fun _ _ _ _ _ _ us hl => match us, hl with | [_], _ => rfl)⟩,
    me_Tally__add := ⟨_, _, ⟨a_Tally__add, i_Tally__add, k_Tally__add⟩, (fun_mk l_Tally__add e_Tally__add k_Tally__add), ((fun_mk (st := s_Tally__add) l_Tally__add e_Tally__add k_Tally__add).binds (ps := ["self", "sender", "block"]) fun _ _ _ _ _ _ us hl => match us, hl with | [_, _, _], _ => rfl)⟩,
    me_Tally__number := ⟨_, _, ⟨a_Tally__number, i_Tally__number, k_Tally__number⟩, (fun_mk l_Tally__number e_Tally__number k_Tally__number), ((fun_mk (st := s_Tally__number) l_Tally__number e_Tally__number k_Tally__number).binds (ps := ["self", "block"]) fun _ _ _ _ _ _ us hl => match us, hl with | [_, _], _ => rfl)⟩,
    cl_Notary := ⟨pg_Notary, hd_Notary, po_Notary, sa_Notary⟩,
    g_Notary := PySem.W.mg_of X G ac_Notary,
    na_Notary__group := na_Notary__group,
    na_Notary__votes := na_Notary__votes,
    na_Notary__readies := na_Notary__readies,
    na_Notary__supported := na_Notary__supported,
    na_Notary__notarized := na_Notary__notarized,
    na_Notary__forgotten := na_Notary__forgotten,
    mk_Notary := ⟨_, _, ⟨mk_Notary, a_Notary____init__, i_Notary____init__, kc_Notary⟩, (fun_mk l_Notary____init__ e_Notary____init__ k_Notary____init__), ((fun_mk (st := s_Notary____init__) l_Notary____init__ e_Notary____init__ k_Notary____init__).binds (ps := ["self", "group"]) fun _ _ _ _ _ _ us hl => match us, hl with | [_, _], _ => rfl)⟩,
    me_Notary__add_vote := ⟨_, _, ⟨a_Notary__add_vote, i_Notary__add_vote, k_Notary__add_vote⟩, (fun_mk l_Notary__add_vote e_Notary__add_vote k_Notary__add_vote), ((fun_mk (st := s_Notary__add_vote) l_Notary__add_vote e_Notary__add_vote k_Notary__add_vote).binds (ps := ["self", "sender", "block"]) fun _ _ _ _ _ _ us hl => match us, hl with | [_, _, _], _ => rfl)⟩,
    me_Notary__add_ready := ⟨_, _, ⟨a_Notary__add_ready, i_Notary__add_ready, k_Notary__add_ready⟩, (fun_mk l_Notary__add_ready e_Notary__add_ready k_Notary__add_ready), ((fun_mk (st := s_Notary__add_ready) l_Notary__add_ready e_Notary__add_ready k_Notary__add_ready).binds (ps := ["self", "sender", "block"]) fun _ _ _ _ _ _ us hl => match us, hl with | [_, _, _], _ => rfl)⟩,
    me_Notary__votes := ⟨_, _, ⟨a_Notary__votes, i_Notary__votes, k_Notary__votes⟩, (fun_mk l_Notary__votes e_Notary__votes k_Notary__votes), ((fun_mk (st := s_Notary__votes) l_Notary__votes e_Notary__votes k_Notary__votes).binds (ps := ["self", "block"]) fun _ _ _ _ _ _ us hl => match us, hl with | [_, _], _ => rfl)⟩,
    me_Notary__readies := ⟨_, _, ⟨a_Notary__readies, i_Notary__readies, k_Notary__readies⟩, (fun_mk l_Notary__readies e_Notary__readies k_Notary__readies), ((fun_mk (st := s_Notary__readies) l_Notary__readies e_Notary__readies k_Notary__readies).binds (ps := ["self", "block"]) fun _ _ _ _ _ _ us hl => match us, hl with | [_, _], _ => rfl)⟩,
    me_Notary__supported := ⟨_, _, ⟨a_Notary__supported, i_Notary__supported, k_Notary__supported⟩, (fun_mk l_Notary__supported e_Notary__supported k_Notary__supported), ((fun_mk (st := s_Notary__supported) l_Notary__supported e_Notary__supported k_Notary__supported).binds (ps := ["self", "epoch"]) fun _ _ _ _ _ _ us hl => match us, hl with | [_, _], _ => rfl)⟩,
    me_Notary__notarized := ⟨_, _, ⟨a_Notary__notarized, i_Notary__notarized, k_Notary__notarized⟩, (fun_mk l_Notary__notarized e_Notary__notarized k_Notary__notarized), ((fun_mk (st := s_Notary__notarized) l_Notary__notarized e_Notary__notarized k_Notary__notarized).binds (ps := ["self", "epoch"]) fun _ _ _ _ _ _ us hl => match us, hl with | [_, _], _ => rfl)⟩,
    me_Notary___judge := ⟨_, _, ⟨a_Notary___judge, i_Notary___judge, k_Notary___judge⟩, (fun_mk l_Notary___judge e_Notary___judge k_Notary___judge), ((fun_mk (st := s_Notary___judge) l_Notary___judge e_Notary___judge k_Notary___judge).binds (ps := ["self", "block"]) fun _ _ _ _ _ _ us hl => match us, hl with | [_, _], _ => rfl)⟩,
    cl_Group := ⟨pg_Group, hd_Group, po_Group, sa_Group⟩,
    g_Group := PySem.W.mg_of X G ac_Group,
    na_Group_faults := na_Group_faults,
    na_Group_machines := na_Group_machines,
    na_Group_quorum := na_Group_quorum,
    na_Group_blocking := na_Group_blocking,
    mk_Group := ⟨_, _, ⟨mk_Group, a_Group____init__, i_Group____init__, kc_Group⟩, (fun_mk l_Group____init__ e_Group____init__ k_Group____init__), ((fun_mk (st := s_Group____init__) l_Group____init__ e_Group____init__ k_Group____init__).binds (ps := ["self", "faults"]) fun _ _ _ _ _ _ us hl => match us, hl with | [_, _], _ => rfl)⟩,
    x_BadGroup := ⟨xe_BadGroup, PySem.W.mg_of X G xa_BadGroup, xk_BadGroup, xb_BadGroup, xt_BadGroup, xh_BadGroup⟩,
    u_BadGroup_BadGroup := u_BadGroup_BadGroup,
    c_MOST_FAULTS := ⟨_, PySem.W.mg_of X G a_MOST_FAULTS, _, rfl⟩,
    z_abs := PySem.W.mg_none_of X G z_abs,
    z_bool := PySem.W.mg_none_of X G z_bool,
    z_int := PySem.W.mg_none_of X G z_int,
    z_isinstance := PySem.W.mg_none_of X G z_isinstance,
    z_len := PySem.W.mg_none_of X G z_len,
    z_list := PySem.W.mg_none_of X G z_list,
    z_range := PySem.W.mg_none_of X G z_range }
end Law
open PySem PySem.W PyProof.Rows
set_option maxRecDepth 100000 in
set_option maxHeartbeats 0 in
theorem PySem.Challenge.cw_oathledger_k28_whole_one_block_an_epoch_holds : PySem.Challenge.rw_oathledger_k28_whole_one_block_an_epoch.Holds := by
  w_on; o_law; k_head; (case hw => w_witness2)
  k_fill
  refine L2.walk_of (l := PySem.Challenge.rw_oathledger_k28_whole_one_block_an_epoch) (n := 63) (k := 8) (x := "script") (CX := fun _ => L2.CX0) (sp := fun w => Law.spLaw _) rfl (by decide) rfl ⟨rfl, by decide, by decide⟩ (fun w h Y => PySem.W.kIn_of Y) ?F (fun _ _ a ns hl _ hS => ⟨a, ns, rfl, hS, hl, fun _ => rfl⟩) (fun _ _ _ _ _ h => h)
  case F =>
    intro w mg fa h KX G hmg
    refine' Law.fin hmg (Law.all_mk KX G ?a_is_integer ?l_is_integer ?e_is_integer ?k_is_integer ?a__law_cell ?l__law_cell ?e__law_cell ?k__law_cell ?a__law_shift ?l__law_shift ?e__law_shift ?k__law_shift ?a__law_draws ?l__law_draws ?e__law_draws ?k__law_draws ?a__law_block ?l__law_block ?e__law_block ?k__law_block ?a__law_deliver ?l__law_deliver ?e__law_deliver ?k__law_deliver ?a_law ?l_law ?e_law ?k_law ?ac_Tally ?pg_Tally ?hd_Tally ?po_Tally ?sa_Tally ?mk_Tally ?kc_Tally ?na_Tally__blocks ?a_Tally____init__ ?i_Tally____init__ ?l_Tally____init__ ?e_Tally____init__ ?k_Tally____init__ ?a_Tally__add ?i_Tally__add ?l_Tally__add ?e_Tally__add ?k_Tally__add ?a_Tally__number ?i_Tally__number ?l_Tally__number ?e_Tally__number ?k_Tally__number ?ac_Notary ?pg_Notary ?hd_Notary ?po_Notary ?sa_Notary ?mk_Notary ?kc_Notary ?na_Notary__group ?na_Notary__votes ?na_Notary__readies ?na_Notary__supported ?na_Notary__notarized ?na_Notary__forgotten ?a_Notary____init__ ?i_Notary____init__ ?l_Notary____init__ ?e_Notary____init__ ?k_Notary____init__ ?a_Notary__add_vote ?i_Notary__add_vote ?l_Notary__add_vote ?e_Notary__add_vote ?k_Notary__add_vote ?a_Notary__add_ready ?i_Notary__add_ready ?l_Notary__add_ready ?e_Notary__add_ready ?k_Notary__add_ready ?a_Notary__votes ?i_Notary__votes ?l_Notary__votes ?e_Notary__votes ?k_Notary__votes ?a_Notary__readies ?i_Notary__readies ?l_Notary__readies ?e_Notary__readies ?k_Notary__readies ?a_Notary__supported ?i_Notary__supported ?l_Notary__supported ?e_Notary__supported ?k_Notary__supported ?a_Notary__notarized ?i_Notary__notarized ?l_Notary__notarized ?e_Notary__notarized ?k_Notary__notarized ?a_Notary___judge ?i_Notary___judge ?l_Notary___judge ?e_Notary___judge ?k_Notary___judge ?ac_Group ?pg_Group ?hd_Group ?po_Group ?sa_Group ?mk_Group ?kc_Group ?na_Group_faults ?na_Group_machines ?na_Group_quorum ?na_Group_blocking ?a_Group____init__ ?i_Group____init__ ?l_Group____init__ ?e_Group____init__ ?k_Group____init__ ?xa_BadGroup ?xe_BadGroup ?xk_BadGroup ?xb_BadGroup ?xt_BadGroup ?xh_BadGroup ?u_BadGroup_BadGroup ?a_MOST_FAULTS ?z_abs ?z_bool ?z_int ?z_isinstance ?z_len ?z_list ?z_range)
    (case a_is_integer => k_is)
    (case l_is_integer => k_is)
    (case e_is_integer => k_is)
    (case k_is_integer => k_is)
    (case a__law_cell => k_is)
    (case l__law_cell => k_is)
    (case e__law_cell => k_is)
    (case k__law_cell => k_is)
    (case a__law_shift => k_is)
    (case l__law_shift => k_is)
    (case e__law_shift => k_is)
    (case k__law_shift => k_is)
    (case a__law_draws => k_is)
    (case l__law_draws => k_is)
    (case e__law_draws => k_is)
    (case k__law_draws => k_is)
    (case a__law_block => k_is)
    (case l__law_block => k_is)
    (case e__law_block => k_is)
    (case k__law_block => k_is)
    (case a__law_deliver => k_is)
    (case l__law_deliver => k_is)
    (case e__law_deliver => k_is)
    (case k__law_deliver => k_is)
    (case a_law => k_is)
    (case l_law => k_is)
    (case e_law => k_is)
    (case k_law => k_is)
    (case ac_Tally => k_is)
    (case pg_Tally => k_is)
    (case hd_Tally => k_is)
    (case po_Tally => k_is)
    (case sa_Tally => k_is)
    (case mk_Tally => k_is)
    (case kc_Tally => k_is)
    (case na_Tally__blocks => k_is)
    (case a_Tally____init__ => k_is)
    (case i_Tally____init__ => k_is)
    (case l_Tally____init__ => k_is)
    (case e_Tally____init__ => k_is)
    (case k_Tally____init__ => k_is)
    (case a_Tally__add => k_is)
    (case i_Tally__add => k_is)
    (case l_Tally__add => k_is)
    (case e_Tally__add => k_is)
    (case k_Tally__add => k_is)
    (case a_Tally__number => k_is)
    (case i_Tally__number => k_is)
    (case l_Tally__number => k_is)
    (case e_Tally__number => k_is)
    (case k_Tally__number => k_is)
    (case ac_Notary => k_is)
    (case pg_Notary => k_is)
    (case hd_Notary => k_is)
    (case po_Notary => k_is)
    (case sa_Notary => k_is)
    (case mk_Notary => k_is)
    (case kc_Notary => k_is)
    (case na_Notary__group => k_is)
    (case na_Notary__votes => k_is)
    (case na_Notary__readies => k_is)
    (case na_Notary__supported => k_is)
    (case na_Notary__notarized => k_is)
    (case na_Notary__forgotten => k_is)
    (case a_Notary____init__ => k_is)
    (case i_Notary____init__ => k_is)
    (case l_Notary____init__ => k_is)
    (case e_Notary____init__ => k_is)
    (case k_Notary____init__ => k_is)
    (case a_Notary__add_vote => k_is)
    (case i_Notary__add_vote => k_is)
    (case l_Notary__add_vote => k_is)
    (case e_Notary__add_vote => k_is)
    (case k_Notary__add_vote => k_is)
    (case a_Notary__add_ready => k_is)
    (case i_Notary__add_ready => k_is)
    (case l_Notary__add_ready => k_is)
    (case e_Notary__add_ready => k_is)
    (case k_Notary__add_ready => k_is)
    (case a_Notary__votes => k_is)
    (case i_Notary__votes => k_is)
    (case l_Notary__votes => k_is)
    (case e_Notary__votes => k_is)
    (case k_Notary__votes => k_is)
    (case a_Notary__readies => k_is)
    (case i_Notary__readies => k_is)
    (case l_Notary__readies => k_is)
    (case e_Notary__readies => k_is)
    (case k_Notary__readies => k_is)
    (case a_Notary__supported => k_is)
    (case i_Notary__supported => k_is)
    (case l_Notary__supported => k_is)
    (case e_Notary__supported => k_is)
    (case k_Notary__supported => k_is)
    (case a_Notary__notarized => k_is)
    (case i_Notary__notarized => k_is)
    (case l_Notary__notarized => k_is)
    (case e_Notary__notarized => k_is)
    (case k_Notary__notarized => k_is)
    (case a_Notary___judge => k_is)
    (case i_Notary___judge => k_is)
    (case l_Notary___judge => k_is)
    (case e_Notary___judge => k_is)
    (case k_Notary___judge => k_is)
    (case ac_Group => k_is)
    (case pg_Group => k_is)
    (case hd_Group => k_is)
    (case po_Group => k_is)
    (case sa_Group => k_is)
    (case mk_Group => k_is)
    (case kc_Group => k_is)
    (case na_Group_faults => k_is)
    (case na_Group_machines => k_is)
    (case na_Group_quorum => k_is)
    (case na_Group_blocking => k_is)
    (case a_Group____init__ => k_is)
    (case i_Group____init__ => k_is)
    (case l_Group____init__ => k_is)
    (case e_Group____init__ => k_is)
    (case k_Group____init__ => k_is)
    (case xa_BadGroup => k_is)
    (case xe_BadGroup => first | k_is | k_exc)
    (case xk_BadGroup => k_is)
    (case xb_BadGroup => k_is)
    (case xt_BadGroup => k_is)
    (case xh_BadGroup => k_is)
    (case u_BadGroup_BadGroup => k_is)
    (case a_MOST_FAULTS => k_is)
    (case z_abs => k_is)
    (case z_bool => k_is)
    (case z_int => k_is)
    (case z_isinstance => k_is)
    (case z_len => k_is)
    (case z_list => k_is)
    (case z_range => k_is)

