import PyProof.Rows.All
import Wide.All
import OpenK.AllK
import Wide.FinOn
import HandS.ForMost
import HandS.Walk
import HandS.Flow
import HandS.Codes
import HandS.IsInst
import HandS.Conv
import HandS.StrMore
import PyProof.MeetsSeq2
import PyProof.DictTable
import HandS.Wide
import HandS.TupAny
import HandS.More
import HandS.Dict
import HandS.ForExc
import HandS.ExcIs
import HandS.ExcField
import HandS.DeepEq
import HandS.TupLe
import HandS.Steps
import HandS.ExcInit
import HandS.SortRule
import HandS.RaiseMore
import HandS.Zip
import PySem.Challenge.RW_oathledger_k58_outbox_lists
set_option Elab.async false
set_option linter.all false
set_option maxRecDepth 100000
set_option maxHeartbeats 4000000
namespace Law
open PySem PySem.Spec PyProof.Rows L2
open C8 (Cal Met Mak pe_c pe_mk pe_mt pe_mt0 pe_gc pss_cut tCut)
/-! ### a def of the top, by its name -/
structure DefOk (K : PySem.W.Frag) (mg : Str → Option Value) (x : Str) (st : Stmt) (ps : List Str) : Prop where
  ex : ∃ (f : Addr) (fd : FuncData), L2.Fun K x x st f fd ∧ mg x = some (.ref f) ∧ Binds K fd ps []
section
variable {P : Program} {w : World} {K : PySem.W.Frag} {mg : Str → Option Value} {base : Heap}
/-- a def's promise, by its body -/
theorem cal {x : Str} {st : Stmt} {N ps : List Str} {k : Nat} {sp : Sp} (D : DefOk K mg x st ps) (S : FnScope N ps (defScope st)) (len : ∀ vs H Q E, sp vs H Q E → vs.length = ps.length)
    (hbody : ∀ (f : Addr) (cdv : Value) (A : Around) (outer : List Env) (s : Shared) (H : Hp) (vs : List V) (Q : VK) (E : XK), Room k (A.deeper (envOfC x (defScope st) s.heap.objs.size f cdv)) → sp vs H Q E →
      ∃ t, PSs (cxOf L2.CX0 P w K mg base N x (defScope st) f cdv A outer s H E).nox (defBody st) t ∧ t { nx := fun _ H' => Q .non H', rt := Q } (start N vs) H) : Cal P w K mg base (k + 1) x sp [] := by
  obtain ⟨f, fd, F, hm, b⟩ := D.ex
  exact ⟨f, fd, ps, [], F.ok S len (fun cdv A outer s H vs Q E hr h => hbody f cdv A outer s H vs Q E hr h), hm, F.kp, b, .nil⟩
/-- a call without arguments -/
theorem pe_c0 {X : Cx} {k j : Nat} {x : Str} {sp : Sp} {dvs : List V} {p pos : Pos} (c : Cal X.prog X.w X.K X.mg X.base k x sp dvs) (hr : Room j X.A) (hk : k ≤ j) (hg : Gl X x)
    (hdb : (x == ("__debug__" : Str)) = false := by decide) : PE X (.Call (.Name x p) [] [] pos) (tCall sp dvs L2.E0 tNil) := by
  obtain ⟨f, fd, ps, ds, F, hm, kp, b, d⟩ := c.ex
  exact pe_call0 F (hr.mono hk) hg hm kp b d pass0 hdb
end
/-! ### small things -/
theorem same_upd {H : Hp} {p : Addr} {o : HO} (h : H p = none) : Same H (upd H p o) := fun b x e => by
  rw [upd_ne (ne_of_none e h)]
  exact e
theorem same_mut {H H' : Hp} {p : Addr} {o : HO} (s : Same H H') (h : H p = none) : Same H (upd H' p o) := fun b x e => by
  rw [upd_ne (ne_of_none e h)]
  exact s b x e
theorem sz1000 {n : Nat} (h : n ≤ 100000) : n ≤ sizeLine := Nat.le_trans h (by decide)
theorem sz1000' {n : Nat} (h : n < 100000) : n < sizeLine := Nat.lt_of_lt_of_le h (by decide)
theorem sz1000'' {n : Nat} (h : n ≤ 16777216) : n ≤ sizeLine := by rw [sizeLine_eq]; exact h
theorem sq {K : PySem.W.Frag} {H : Hp} {a : Addr} {xs : List V} (h : H a = some (.lst xs)) : SqL K H a xs := .inl (.inl h)
def spLaw (K : PySem.W.Frag) : Sp := fun vs H Q _ => ∃ (a : Addr) (ns : List Int), vs = [.ref a] ∧ SqL K H a (ns.map V.int) ∧ ns.length ≤ 63 ∧ ∀ H', Q (.bl true) H'
/-! ### the reading, step by step -/
local macro_rules | `(tactic| walk_at "sd") => `(tactic| first
  | omega
  | decide
  | assumption
  | (show _ ∨ _; exact Or.inl ⟨by omega, by omega⟩)
  | (show _ ∨ _; exact Or.inr ⟨by omega, by omega⟩)
  | (show _ ∧ _; exact ⟨by omega, by omega⟩)
  | (show _ ∧ _; exact ⟨by decide, by decide⟩)
  | exact sz1000 (by omega)
  | exact sz1000' (by omega))
local macro_rules | `(tactic| walk_at "sz") => `(tactic| first
  | exact sz1000 (Nat.le_of_ble_eq_true rfl)
  | exact sz1000 (by omega)
  | exact sz1000'' (by omega)
  | assumption)
/-- one step of a reading: a slot, an operator upon numbers, a call upon values -/
local macro_rules | `(tactic| walk_at "rd") => `(tactic| first
  | refine ⟨_, (rfl : (_ : List (Option V))[_]? = some (some _)), ?_⟩
  | refine ⟨_, _, (rfl : (_ : V) = _), (rfl : (_ : V) = _), (by walk_at "sd" : (_ : Prop)), ?_⟩
  | refine ⟨_, _, (rfl : (_ : V) = _), (rfl : (_ : V) = _), ?_⟩
  | refine ⟨_, (rfl : (_ : List V) = _), (by walk_at "sd" : (_ : Prop)), (by walk_at "sd" : (_ : Prop)), ?_⟩
  | refine ⟨_, (rfl : (_ : List V) = _), ?_⟩
  | refine ⟨_, (rfl : (_ : V) = _), ?_⟩
  | refine .inl ⟨_, (rfl : (_ : List V) = _), ?_⟩
  | refine ⟨⟨_, (rfl : (_ : V) = _)⟩, ?_⟩
  | refine ⟨(rfl : scal _ _ = true), ?_⟩
  | refine ⟨(rfl : V.non = V.non), ?_⟩
  | refine ⟨(by walk_at "sz" : (_ ≤ sizeLine)), ?_⟩)
local macro_rules | `(tactic| walk_at "rds") => `(tactic| repeat walk_at "rd")
theorem tyes {σ : L2.St} {H : Hp} {A B : Hp → Prop} (h : A H) : tYes σ H (fun b H3 => if b = true then A H3 else B H3) := by
  show (if true = true then A H else B H)
  rw [if_pos rfl]
  exact h
theorem sum_ones {ys : List Str} (h : ∀ y ∈ ys, y.length = 1) : (ys.map (fun x => x.length)).sum = ys.length := by
  induction ys with
  | nil => rfl
  | cons y r ih =>
    rw [List.map_cons, List.sum_cons, ih (fun z hz => h z (List.mem_cons_of_mem _ hz)), h y List.mem_cons_self, List.length_cons]
    omega
theorem chr_at {z : Str} {i : Int} (h0 : 0 ≤ i) (h1 : i < z.length) : ∃ c, atI z.cps.toList i = some c := by
  obtain ⟨j, rfl⟩ := Int.eq_ofNat_of_zero_le h0
  have hj : j < z.cps.toList.length := by
    rw [Array.length_toList]
    exact Int.ofNat_lt.mp h1
  exact ⟨z.cps.toList[j], atI_nat (List.getElem?_eq_getElem hj)⟩
/-- what an append to a tracked new list leaves -/
theorem lst_app {α : Type} {H : Hp} {D : Addr} {f : α → V} {ys : List α} {y : α} : upd H D (.lst (ys.map f ++ [f y])) D = some (.lst ((ys ++ [y]).map f)) := by
  rw [upd_same, List.map_append]
  rfl
theorem rg40 {n : Nat} (h : n ≤ 100000) : RgC 0 n 40 ((n + 39) / 40) := by
  have e : Builtin.Range.rangeSize 0 (n : Int) 40 = (((n + 39) / 40 : Nat) : Int) := by
    rw [rangeSize_pos (by decide) (by omega)]
    omega
  refine ⟨by decide, by decide, ?_, e⟩
  unfold Builtin.Range.small
  rw [e]
  unfold Builtin.Range.rangeFitsLong
  simp
  omega
theorem isi {K : PySem.W.Frag} {H : Hp} {x : V} {T1 T2 : String} {b : Bool} {Q : VK} (ty : TyX K H x (.type T1)) (e : kitB T1 T2 = some b) (q : Q (.bl b) H) : rIsi K [x, .ty T2] H Q :=
  ⟨x, .ty T2, _, _, b, rfl, .ty _, ty, kit_ty e, q⟩
theorem ifT {c : Bool} {A B : Prop} (hc : c = true) (h : A) : if c = true then A else B := by
  rw [if_pos hc]
  exact h
theorem ifF {c : Bool} {A B : Prop} (hc : c = false) (h : B) : if c = true then A else B := by
  rw [if_neg (by rw [hc]; decide)]
  exact h
local macro_rules | `(tactic| walk_at "isk") => `(tactic| first
  | exact .base (.int _) | exact .base (.str _) | exact .base (.bl _) | exact .base .non
  | exact .base (.lst (by assumption)) | exact .base (.tup (by assumption)) | exact .base (.dK (by assumption)))
/-- isinstance(x, T) with a built-in T; the object's fact stands in the context -/
local macro_rules | `(tactic| walk_at "isi") => `(tactic| first
  | refine ⟨_, .ty _, _, _, true, (rfl : (_ : List V) = _), .ty _, (by walk_at "isk"), kit_ty (by decide +kernel), ?_⟩
  | refine ⟨_, .ty _, _, _, false, (rfl : (_ : List V) = _), .ty _, (by walk_at "isk"), kit_ty (by decide +kernel), ?_⟩)
/-! ### classes of the top -/
structure MethOk (K : PySem.W.Frag) (C : Addr) (m qual : Str) (st : Stmt) (ps : List Str) : Prop where
  ex : ∃ (f : Addr) (fd : FuncData), Meth K C m f ∧ L2.Fun K m qual st f fd ∧ Binds K fd ps []
structure MakOk (K : PySem.W.Frag) (C : Addr) (qual : Str) (st : Stmt) (ps : List Str) : Prop where
  ex : ∃ (f : Addr) (fd : FuncData), Mk K C f ∧ L2.Fun K "__init__" qual st f fd ∧ Binds K fd ps []
section
variable {P : Program} {w : World} {K : PySem.W.Frag} {mg : Str → Option Value} {base : Heap}
theorem met {C : Addr} {m qual : Str} {st : Stmt} {N ps : List Str} {k : Nat} {sp : Sp} (c : Cls K C) (D : MethOk K C m qual st ps) (S : FnScope N ps (defScope st)) (len : ∀ vs H Q E, sp vs H Q E → vs.length = ps.length)
    (hbody : ∀ (f : Addr) (cdv : Value) (A : Around) (outer : List Env) (s : Shared) (H : Hp) (vs : List V) (Q : VK) (E : XK), Room k (A.deeper (envOfC qual (defScope st) s.heap.objs.size f cdv)) → sp vs H Q E →
      ∃ t, PSs (cxOf L2.CX0 P w K mg base N qual (defScope st) f cdv A outer s H E).nox (defBody st) t ∧ t { nx := fun _ H' => Q .non H', rt := Q } (start N vs) H) : Met P w K mg base (k + 1) C m sp [] := by
  obtain ⟨f, fd, M, F, b⟩ := D.ex
  exact ⟨f, fd, ps, [], c, M, F.ok S len (fun cdv A outer s H vs Q E hr h => hbody f cdv A outer s H vs Q E hr h), b, .nil⟩
theorem mak {C : Addr} {x qual : Str} {st : Stmt} {N ps : List Str} {k : Nat} {sp : Sp} (hm : mg x = some (.ref C)) (D : MakOk K C qual st ps) (S : FnScope N ps (defScope st)) (len : ∀ vs H Q E, sp vs H Q E → vs.length = ps.length)
    (hbody : ∀ (f : Addr) (cdv : Value) (A : Around) (outer : List Env) (s : Shared) (H : Hp) (vs : List V) (Q : VK) (E : XK), Room k (A.deeper (envOfC qual (defScope st) s.heap.objs.size f cdv)) → sp vs H Q E →
      ∃ t, PSs (cxOf L2.CX0 P w K mg base N qual (defScope st) f cdv A outer s H E).nox (defBody st) t ∧ t { nx := fun _ H' => Q .non H', rt := Q } (start N vs) H) : Mak P w K mg base (k + 1) x C sp [] := by
  obtain ⟨f, fd, M, F, b⟩ := D.ex
  exact ⟨f, fd, ps, [], M, F.ok S len (fun cdv A outer s H vs Q E hr h => hbody f cdv A outer s H vs Q E hr h), hm, b, .nil⟩
end
/-- a tuple of the top, in the written part -/
def KTup (K : PySem.W.Frag) (a : Addr) (xs : List V) : Prop := ∃ o its n, K.lookup a = some o ∧ o.cls = Value.type "tuple" ∧ o.data = Data.seq its n ∧ its.size ≤ sizeLine ∧ Vals xs its.toList
theorem pe_mk0 {X : Cx} {k j : Nat} {x : Str} {C : Addr} {sp : Sp} {dvs : List V} {p pos : Pos} (c : Mak X.prog X.w X.K X.mg X.base k x C sp dvs) (hr : Room j X.A) (hk : k + 1 ≤ j) (hg : Gl X x)
    (hdb : (x == ("__debug__" : Str)) = false := by decide) : PE X (.Call (.Name x p) [] [] pos) (tMake C sp dvs L2.E0 tNil) := by
  obtain ⟨f, fd, ps, ds, M, F, hm, b, d⟩ := c.ex
  exact pe_make0 M F (hr.mono hk) hg hm b d pass0 hdb
/-! ### rules whose written part is named K (a comprehension's context is another one) -/
section
variable {X : Cx} {K : PySem.W.Frag}
theorem kin (h : X.K = K := by rfl) : OpR X (compareOp .In) (rIn K false) := by subst h; exact op_in_seq
theorem knin (h : X.K = K := by rfl) : OpR X (compareOp .NotIn) (rIn K true) := by subst h; exact op_notIn_seq
theorem kixl (h : X.K = K := by rfl) : IxR X (rIxL K) := by subst h; exact ix_list
theorem kixt (h : X.K = K := by rfl) : IxR X (rIxT K) := by subst h; exact ix_tup
theorem ksll (h : X.K = K := by rfl) : SlR X (rSlL K) := by subst h; exact sl_list
theorem kisi (h : X.K = K := by rfl) : CallR X (.builtin "isinstance") (rIsi K) := by subst h; exact call_isi
theorem kfld {o : Expr} {f : Str} {pos : Pos} {ta : TE} (he : PE X o ta) (hb : attributeBase o f X.env (eval o X.env) = eval o X.env := by rfl) (h : X.K = K := by rfl) : PE X (.Attribute o f pos) (tFld K ta f) := by subst h; exact pe_fld he hb
def rLenK (K : PySem.W.Frag) : List V → Hp → VK → Prop := fun xs H Q => ∃ p ys, xs = [.ref p] ∧ (SqL K H p ys ∨ SqT K H p ys) ∧ Q (.int ys.length) H
theorem klen (h : X.K = K := by rfl) : CallR X (.builtin "len") (rLenK K) := by subst h; exact call_len_seq
end
theorem hu1 {k : Nat} {A : Around} (hr : Room k A) : A.units + 1 < cLine := by have := hr.units; omega
section
variable {X : Cx}
theorem kdin {d : Addr} (h : ∃ es n, KDict X.K X.w d es n) : OpR X (compareOp .In) (fun x y H Q => ∃ (z : Str) (r : Option Value), x = .str z ∧ y = .ref d ∧ PySem.W.nsIn X.K d z = some r ∧ Q (.bl r.isSome) H) := by
  obtain ⟨es, n, D⟩ := h
  exact op_in_kd D
theorem kdnin {d : Addr} (h : ∃ es n, KDict X.K X.w d es n) : OpR X (compareOp .NotIn) (fun x y H Q => ∃ (z : Str) (r : Option Value), x = .str z ∧ y = .ref d ∧ PySem.W.nsIn X.K d z = some r ∧ Q (.bl (!r.isSome)) H) := by
  obtain ⟨es, n, D⟩ := h
  exact op_notIn_kd D
end
theorem kgtup {X : Cx} {K : PySem.W.Frag} {es : List Expr} {k : Nat} {t : TGs} {n : Nat} {pos : Pos} (hc : X.calm = true) (h : PGs X es t)
    (hn : (assignEach es X.env).length = n := by rfl) (hst : (assignEach es X.env).findIdx? (·.1) = none := by rfl) (hK : X.K = K := by rfl) : PG X (.Tuple es k pos) (gTup K n t) := by subst hK; exact pg_tup hc h hn hst

/-! ### defs that raise own exceptions -/
theorem kit_own {K : PySem.W.Frag} {B C : Addr} (h1 : PySem.W.subIn K (.ref C) (.type "BaseException") = some true) (h2 : PySem.W.typeIn K (.ref C) = some (.type "type")) (h3 : PySem.W.subIn K (.ref B) (.ref C) = some true) : PySem.W.kitOne K (.ref B) (.ref C) = some true := by
  have h0 : (PySem.W.clsIn K C).isSome = true := by
    have h1 : PySem.W.mroIn K C (.type "BaseException") = some true := h1
    unfold PySem.W.mroIn at h1
    cases e : PySem.W.clsIn K C with
    | some _ => rfl
    | none => rw [e] at h1; cases h1
  unfold PySem.W.kitOne
  split
  · rfl
  · show (if ((PySem.W.clsIn K C).isSome && PySem.W.typeIn K (.ref C) == some (.type "type")) = true then PySem.W.subIn K (.ref B) (.ref C) else none) = some true
    rw [h0, h2, h3]
    rfl
section
variable {X : Cx}
/-- C() of an own exception class without an __init__ of its own -/
theorem pmk_own0 {x : Str} {C : Addr} {bmB : List Value} {B newId initId : String} {p pos : Pos} (F : ExcBaseFacts B newId initId bmB) (q : PySem.W.excIn X.K C bmB newId = true) (gC : X.mg x = some (.ref C)) (kC : PySem.W.keepIn X.K (.ref C) = true) (r : Raises X (.ref C)) (hg : Gl X x)
    (hdb : (x == ("__debug__" : Str)) = false := by decide) : PMk X (.Call (.Name x p) [] [] pos) (fun _ H Q => Q (.ref C) none H) := by
  intro pins s σ H Q I h
  refine wpAny_Call_Name_kw (ld_glob I hg gC ?_ hdb)
  refine PySem.W.callWith_K0 I.kIn kC ?_
  show wpAny _ _ (call (.ref C) []) _ _ _
  obtain ⟨bm, N, nm, qn, bs, hdct, sn, sub, ab, col, dd, k0, k1, k2, k3, k5, mN, hC, hN, hni, T⟩ := exc_obj I.kIn q
  refine wpAny_call_exc_subT F T hC hN hni (fun h' e hm => ?_) (Nat.zero_le _)
  exact mk_of I hm r h (I.hok.gone hm.new)
end
/-- an own exception class over ValueError -/
structure ExOk (K : PySem.W.Frag) (mg : Str → Option Value) (x : Str) (C : Addr) : Prop where
  ex : PySem.W.excIn K C [.type "ValueError", .type "Exception", .type "BaseException", .type "object"] "ValueError.__new__" = true
  g : mg x = some (.ref C)
  kp : PySem.W.keepIn K (.ref C) = true
  bp : PySem.W.subIn K (.ref C) (.type "BaseException") = some true
  tp : PySem.W.typeIn K (.ref C) = some (.type "type")
  hd : PySem.W.hasDictIn K C = true
theorem ExOk.exm {K : PySem.W.Frag} {mg : Str → Option Value} {x : Str} {C : Addr} {cls : Value} {b : Bool} (e : ExOk K mg x C) (h : PySem.W.subIn K cls (.ref C) = some b) : PySem.W.exmOne K cls (.ref C) = some b := PySem.W.exm_ref e.bp e.hd e.tp h
theorem pmk_ok {X : Cx} {x : Str} {C : Addr} {p pos : Pos} (e : ExOk X.K X.mg x C) (hg : Gl X x) (hdb : (x == ("__debug__" : Str)) = false := by decide) : PMk X (.Call (.Name x p) [] [] pos) (fun _ H Q => Q (.ref C) none H) :=
  pmk_own0 PySem.F.excBase_ValueError e.ex e.g e.kp (raises_own e.bp e.tp) hg hdb
/-! the promises of such defs -/
structure CalX (P : Program) (w : World) (K : PySem.W.Frag) (mg : Str → Option Value) (base : Heap) (k : Nat) (x : Str) (sp : Sp) : Prop where
  ex : ∃ (f : Addr) (fd : FuncData) (ps : List Str), FnOk P w K mg base (L2.CX P w) k f fd ps sp ∧ mg x = some (.ref f) ∧ PySem.W.keepIn K (.ref f) = true ∧ Binds K fd ps []
structure MetX (P : Program) (w : World) (K : PySem.W.Frag) (mg : Str → Option Value) (base : Heap) (k : Nat) (C : Addr) (m : Str) (sp : Sp) : Prop where
  ex : ∃ (f : Addr) (fd : FuncData) (ps : List Str), Cls K C ∧ Meth K C m f ∧ FnOk P w K mg base (L2.CX P w) k f fd ps sp ∧ Binds K fd ps []
structure MakX (P : Program) (w : World) (K : PySem.W.Frag) (mg : Str → Option Value) (base : Heap) (k : Nat) (x : Str) (C : Addr) (sp : Sp) : Prop where
  ex : ∃ (f : Addr) (fd : FuncData) (ps : List Str), Mk K C f ∧ FnOk P w K mg base (L2.CX P w) k f fd ps sp ∧ mg x = some (.ref C) ∧ Binds K fd ps []
section
variable {P : Program} {w : World} {K : PySem.W.Frag} {mg : Str → Option Value} {base : Heap}
theorem calX {x : Str} {st : Stmt} {N ps : List Str} {k : Nat} {sp : Sp} (D : DefOk K mg x st ps) (S : FnScope N ps (defScope st)) (len : ∀ vs H Q E, sp vs H Q E → vs.length = ps.length)
    (hbody : ∀ (f : Addr) (cdv : Value) (A : Around) (outer : List Env) (s : Shared) (H : Hp) (vs : List V) (Q : VK) (E : XK), Room k (A.deeper (envOfC x (defScope st) s.heap.objs.size f cdv)) → sp vs H Q E →
      ∃ t, PSs (cxOf (L2.CX P w) P w K mg base N x (defScope st) f cdv A outer s H E) (defBody st) t ∧ t { nx := fun _ H' => Q .non H', rt := Q } (start N vs) H) : CalX P w K mg base (k + 1) x sp := by
  obtain ⟨f, fd, F, hm, b⟩ := D.ex
  exact ⟨f, fd, ps, F.okX S len (fun cdv A outer s H vs Q E hr h => hbody f cdv A outer s H vs Q E hr h), hm, F.kp, b⟩
theorem metX {C : Addr} {m qual : Str} {st : Stmt} {N ps : List Str} {k : Nat} {sp : Sp} (c : Cls K C) (D : MethOk K C m qual st ps) (S : FnScope N ps (defScope st)) (len : ∀ vs H Q E, sp vs H Q E → vs.length = ps.length)
    (hbody : ∀ (f : Addr) (cdv : Value) (A : Around) (outer : List Env) (s : Shared) (H : Hp) (vs : List V) (Q : VK) (E : XK), Room k (A.deeper (envOfC qual (defScope st) s.heap.objs.size f cdv)) → sp vs H Q E →
      ∃ t, PSs (cxOf (L2.CX P w) P w K mg base N qual (defScope st) f cdv A outer s H E) (defBody st) t ∧ t { nx := fun _ H' => Q .non H', rt := Q } (start N vs) H) : MetX P w K mg base (k + 1) C m sp := by
  obtain ⟨f, fd, M, F, b⟩ := D.ex
  exact ⟨f, fd, ps, c, M, F.okX S len (fun cdv A outer s H vs Q E hr h => hbody f cdv A outer s H vs Q E hr h), b⟩
theorem makX {C : Addr} {x qual : Str} {st : Stmt} {N ps : List Str} {k : Nat} {sp : Sp} (hm : mg x = some (.ref C)) (D : MakOk K C qual st ps) (S : FnScope N ps (defScope st)) (len : ∀ vs H Q E, sp vs H Q E → vs.length = ps.length)
    (hbody : ∀ (f : Addr) (cdv : Value) (A : Around) (outer : List Env) (s : Shared) (H : Hp) (vs : List V) (Q : VK) (E : XK), Room k (A.deeper (envOfC qual (defScope st) s.heap.objs.size f cdv)) → sp vs H Q E →
      ∃ t, PSs (cxOf (L2.CX P w) P w K mg base N qual (defScope st) f cdv A outer s H E) (defBody st) t ∧ t { nx := fun _ H' => Q .non H', rt := Q } (start N vs) H) : MakX P w K mg base (k + 1) x C sp := by
  obtain ⟨f, fd, M, F, b⟩ := D.ex
  exact ⟨f, fd, ps, M, F.okX S len (fun cdv A outer s H vs Q E hr h => hbody f cdv A outer s H vs Q E hr h), hm, b⟩
end
/-! their calls: E tells at the slots what is wished of an error -/
section
variable {X : Cx} {k j : Nat} {C : Addr} {x m : Str} {sp : Sp} {p pos apos : Pos} {e o : Expr} {es : List Expr} {ta : TE} {t : TA} {E : L2.St → XK}
theorem pe_cX (c : CalX X.prog X.w X.K X.mg X.base k x sp) (hr : Room j X.A) (hk : k ≤ j) (hg : Gl X x) (hx : ∀ σ, PassesAt (L2.CX X.prog X.w) X σ (E σ)) (ha : PA X (e :: es) t)
    (hdb : (x == ("__debug__" : Str)) = false := by decide) (he : starEach (e :: es) X.env = (false, eval e X.env) :: starEach es X.env := by rfl) (hpl : (backTo pos (starEach es X.env)).any (·.1) = false := by rfl) :
    PE X (.Call (.Name x p) (e :: es) [] pos) (tCallS sp E t) := by
  obtain ⟨f, fd, ps, F, hm, kp, b⟩ := c.ex
  exact pe_callS F (hr.mono hk) hg hm kp b hx ha hdb he hpl
/-- where nothing is raised -/
theorem pe_cXn (c : CalX X.prog X.w X.K X.mg X.base k x sp) (hr : Room j X.A) (hk : k ≤ j) (hg : Gl X x) (ha : PA X (e :: es) t)
    (hdb : (x == ("__debug__" : Str)) = false := by decide) (he : starEach (e :: es) X.env = (false, eval e X.env) :: starEach es X.env := by rfl) (hpl : (backTo pos (starEach es X.env)).any (·.1) = false := by rfl) :
    PE X (.Call (.Name x p) (e :: es) [] pos) (tCall sp [] L2.E0 t) := by
  obtain ⟨f, fd, ps, F, hm, kp, b⟩ := c.ex
  exact pe_call F (hr.mono hk) hg hm kp b .nil passL ha hdb he hpl
def tMethX (C : Addr) (m : Str) (sp : Sp) (E : L2.St → XK) (ta : TE) (t : TA) : TE := fun σ H Q => ta σ H fun x H1 => ∃ a dx fs, x = .ref a ∧ H1 a = some (.ins C dx fs) ∧ fs.lookup m = none ∧ t σ H1 fun vs H2 => sp (.ref a :: vs) H2 Q (E σ)
theorem pe_mtX {pl : Sem Bool} (c : MetX X.prog X.w X.K X.mg X.base k C m sp) (hr : Room j X.A) (hk : k ≤ j) (hx : ∀ σ, PassesAt (L2.CX X.prog X.w) X σ (E σ)) (he : PE X o ta) (ha : PA X (e :: es) t)
    (hst : starEach (e :: es) X.env = (false, eval e X.env) :: starEach es X.env := by rfl) (hpl : (backTo pos (starEach es X.env)).any (·.1) = false := by rfl)
    (ht : eval (.Call (.Attribute o m apos) (e :: es) [] pos) X.env = (do
      let ov ← eval o X.env
      standAt apos.atName
      let (f, first) ← holding [ov] (getMethod ov m pl)
      callWith pos f first (backTo pos (starEach (e :: es) X.env)) (backToKw pos (keywordEach [] X.env))) := by rfl) :
    PE X (.Call (.Attribute o m apos) (e :: es) [] pos) (tMethX C m sp E ta t) := by
  obtain ⟨f, fd, ps, hc, hm, F, b⟩ := c.ex
  refine ⟨fun pins s σ H Q I h => ?_⟩
  refine PySem.W.methodCall_KW (pl := pl) (thn (he.run pins s σ H _ I h) fun u s1 ⟨x, H1, I1, rx, a, dx, fs, ex, ea, l, q⟩ => ?_) ht
  subst ex
  obtain rfl : u = Value.ref a := rx
  refine getmeth_ok I1 ea hc hm l ?_
  refine PySem.W.callWith_K (first := [.ref a]) (h₀ := X.base) I.ok.mod.kin hm.kp (thn (ha.run pos pins s1 σ H1 _ I1 q) fun us s2 ⟨vs, H2, I2, r, q2⟩ => ⟨I2.kIn, ?_⟩) hst hpl
  exact run_fnS (us := .ref a :: us) (vs := .ref a :: vs) F (hr.mono hk) b (hx σ) I2 (.cons rfl r) q2
theorem pe_mtX0 {pl : Sem Bool} (c : MetX X.prog X.w X.K X.mg X.base k C m sp) (hr : Room j X.A) (hk : k ≤ j) (hx : ∀ σ, PassesAt (L2.CX X.prog X.w) X σ (E σ)) (he : PE X o ta)
    (ht : eval (.Call (.Attribute o m apos) [] [] pos) X.env = (do
      let ov ← eval o X.env
      standAt apos.atName
      let (f, first) ← holding [ov] (getMethod ov m pl)
      callWith pos f first (backTo pos (starEach [] X.env)) (backToKw pos (keywordEach [] X.env))) := by rfl) :
    PE X (.Call (.Attribute o m apos) [] [] pos) (tMethX C m sp E ta tNil) := by
  obtain ⟨f, fd, ps, hc, hm, F, b⟩ := c.ex
  refine ⟨fun pins s σ H Q I h => ?_⟩
  refine PySem.W.methodCall_KW (pl := pl) (thn (he.run pins s σ H _ I h) fun u s1 ⟨x, H1, I1, rx, a, dx, fs, ex, ea, l, q⟩ => ?_) ht
  subst ex
  obtain rfl : u = Value.ref a := rx
  refine getmeth_ok I1 ea hc hm l ?_
  exact PySem.W.callWith_K0 (first := [.ref a]) I1.kIn hm.kp (run_fnS (us := [.ref a]) (vs := [.ref a]) F (hr.mono hk) b (hx σ) I1 (.cons rfl .nil) q)
def tMakeX (C : Addr) (sp : Sp) (E : L2.St → XK) (t : TA) : TE := fun σ H Q => t σ H fun vs H1 => ∀ x dx, H1 x = none → H1 dx = none → dx ≠ x → sp (.ref x :: vs) (upd (upd H1 dx (.own x)) x (.ins C dx [])) (fun v H2 => v = .non ∧ Q (.ref x) H2) (E σ)
theorem run_makeX {CX : CXT} {f : Addr} {fd : FuncData} {ps : List Str} {pins : List (Addr × Obj)} {σ : L2.St} {H : Hp} {s : Shared} {Q : VK} {us : List Value} {vs : List V} {Eσ : XK} (M : Mk X.K C f) (F : FnOk X.prog X.w X.K X.mg X.base CX k f fd ps sp) (hr : Room (k + 1) X.A) (hb : Binds X.K fd ps [])
    (hx : PassesAt CX X σ Eσ) (I : Inv X pins σ H s) (r : Vals vs us)
    (h : ∀ x dx, H x = none → H dx = none → dx ≠ x → sp (.ref x :: vs) (upd (upd H dx (.own x)) x (.ins C dx [])) (fun v H2 => v = .non ∧ Q (.ref x) H2) Eσ) :
    wpAny (model X.prog X.w) X.A (call (.ref C) us) (EP X pins σ Q) X.xe s := by
  have hq := h (s.heap.objs.size + 1) s.heap.objs.size (I.hok.fresh (Nat.le_succ _)) (I.hok.fresh (Nat.le_refl _)) (Nat.ne_of_lt (Nat.lt_succ_self _))
  have I2 := Inv.made (C := C) I
  have r2 : Vals (V.ref (s.heap.objs.size + 1) :: vs) (Value.ref (s.heap.objs.size + 1) :: us) := .cons rfl r
  have hl : (Value.ref (s.heap.objs.size + 1) :: us ++ ([] : List Value)).length = ps.length := by
    have e := r2.length
    rw [F.len _ _ _ _ hq] at e
    rw [List.append_nil]
    exact e.symm
  have hb' := hb _ (Value.ref (s.heap.objs.size + 1) :: us) I2.kIn hl
  rw [List.append_nil] at hb'
  refine wpAny_call (make_map (f := f) I.kIn M.makes M.init (beq_iff_eq.mp M.fn) (codeAny_mono (F.run _ X.stack _ _ ⟨Value.ref (s.heap.objs.size + 1) :: us, []⟩ (Value.ref (s.heap.objs.size + 1) :: us) _ _ Eσ (hr.make C us [])
    (I2.env0.make C us []) hb' r2 hq) fun r s' hq' => ?_))
  cases r with
  | error e => exact hx pins _ _ e s' I2 hq'
  | ok fl =>
    cases fl with
    | ret u =>
      obtain ⟨v, H', I3, rv, ev, q3⟩ := I2.after hq'
      subst ev
      exact ⟨rv, ⟨V.ref (s.heap.objs.size + 1), H', I3, rfl, q3⟩⟩
    | next => exact False.elim hq'
    | brk => exact False.elim hq'
    | cont => exact False.elim hq'
theorem pe_mkX (c : MakX X.prog X.w X.K X.mg X.base k x C sp) (hr : Room j X.A) (hk : k + 1 ≤ j) (hg : Gl X x) (hx : ∀ σ, PassesAt (L2.CX X.prog X.w) X σ (E σ)) (ha : PA X (e :: es) t)
    (hdb : (x == ("__debug__" : Str)) = false := by decide) (he : starEach (e :: es) X.env = (false, eval e X.env) :: starEach es X.env := by rfl) (hpl : (backTo pos (starEach es X.env)).any (·.1) = false := by rfl) :
    PE X (.Call (.Name x p) (e :: es) [] pos) (tMakeX C sp E t) := by
  obtain ⟨f, fd, ps, M, F, hm, b⟩ := c.ex
  refine ⟨fun pins s σ H Q I h => ?_⟩
  refine wpAny_Call_Name_kw (ld_glob I hg hm ?_ hdb)
  refine PySem.W.callWith_K (h₀ := X.base) I.ok.mod.kin M.kp (thn (ha.run pos pins s σ H _ I h) fun us s1 ⟨vs, H1, I1, r, q⟩ => ⟨I1.kIn, ?_⟩) he hpl
  exact run_makeX M F (hr.mono hk) b (hx σ) I1 r q
/-- where nothing is let out: for the calls above in a def without errors -/
theorem no_pass : ∀ σ : L2.St, PassesAt (L2.CX X.prog X.w) X σ ((fun _ => L2.E0) σ) := fun σ pins H s e s' I c => passL pins σ H s e s' I c
end

def topS (i : Nat) : Stmt := PySem.Challenge.pw_oathledger_k58_outbox_lists.main.body.getD i (.Pass ⟨0, 0, 0, 0⟩)
abbrev s_to_others : Stmt := topS 2
theorem sc_to_others : FnScope ["group", "me", "letter", "receiver"] ["group", "me", "letter"] (defScope s_to_others) := ⟨rfl, rfl, rfl, by decide +kernel, rfl, by decide +kernel, by decide +kernel⟩
abbrev s_repeats : Stmt := topS 3
theorem sc_repeats : FnScope ["group", "me", "vouches", "votes", "readies", "height", "letters", "sent", "letter", "command", "block"] ["group", "me", "vouches", "votes", "readies", "height"] (defScope s_repeats) := ⟨rfl, rfl, rfl, by decide +kernel, rfl, by decide +kernel, by decide +kernel⟩
abbrev s_gives : Stmt := topS 4
theorem sc_gives : FnScope ["receiver", "blocks", "height", "block"] ["receiver", "blocks", "height"] (defScope s_gives) := ⟨rfl, rfl, rfl, by decide +kernel, rfl, by decide +kernel, by decide +kernel⟩
abbrev s_answers : Stmt := topS 5
theorem sc_answers : FnScope ["rows", "client", "number", "answer"] ["rows"] (defScope s_answers) := ⟨rfl, rfl, rfl, by decide +kernel, rfl, by decide +kernel, by decide +kernel⟩
abbrev s_is_integer : Stmt := topS 11
theorem sc_is_integer : FnScope ["value", "least", "greatest"] ["value", "least", "greatest"] (defScope s_is_integer) := ⟨rfl, rfl, rfl, by decide +kernel, rfl, by decide +kernel, by decide +kernel⟩
abbrev s_Group____init__ : Stmt := inClass (topS 13) 0
theorem sc_Group____init__ : FnScope ["self", "faults"] ["self", "faults"] (defScope s_Group____init__) := ⟨rfl, rfl, rfl, by decide +kernel, rfl, by decide +kernel, by decide +kernel⟩
abbrev s_Group__members : Stmt := inClass (topS 13) 1
theorem sc_Group__members : FnScope ["self"] ["self"] (defScope s_Group__members) := ⟨rfl, rfl, rfl, by decide +kernel, rfl, by decide +kernel, by decide +kernel⟩
abbrev s__law_cell : Stmt := topS 15
theorem sc__law_cell : FnScope ["script", "k"] ["script", "k"] (defScope s__law_cell) := ⟨rfl, rfl, rfl, by decide +kernel, rfl, by decide +kernel, by decide +kernel⟩
abbrev s__law_shift : Stmt := topS 16
theorem sc__law_shift : FnScope ["number", "base", "places", "k"] ["number", "base", "places"] (defScope s__law_shift) := ⟨rfl, rfl, rfl, by decide +kernel, rfl, by decide +kernel, by decide +kernel⟩
abbrev s__law_draws : Stmt := topS 17
theorem sc__law_draws : FnScope ["script", "start", "most", "draws", "cell", "number", "mixed", "k"] ["script", "start", "most"] (defScope s__law_draws) := ⟨rfl, rfl, rfl, by decide +kernel, rfl, by decide +kernel, by decide +kernel⟩
abbrev s__law_block : Stmt := topS 18
theorem sc__law_block : FnScope ["number"] ["number"] (defScope s__law_block) := ⟨rfl, rfl, rfl, by decide +kernel, rfl, by decide +kernel, by decide +kernel⟩
abbrev s__law_all : Stmt := topS 19
theorem sc__law_all : FnScope ["me", "machines", "letters", "rows", "letter", "member"] ["me", "machines", "letters"] (defScope s__law_all) := ⟨rfl, rfl, rfl, by decide +kernel, rfl, by decide +kernel, by decide +kernel⟩
abbrev s_law : Stmt := topS 20
theorem sc_law : FnScope ["script", "faults", "machines", "me", "group", "draws", "vouches", "votes", "readies", "height", "letters", "passed", "letter", "blocks", "given", "rows", "told", "draw", "command", "block", "row"] ["script"] (defScope s_law) := ⟨rfl, rfl, rfl, by decide +kernel, rfl, by decide +kernel, by decide +kernel⟩
structure Txt (K : PySem.W.Frag) (mg : Str → Option Value) (C_Group : Addr) (C_BadGroup : Addr) : Prop where
  d_to_others : DefOk K mg "to_others" s_to_others ["group", "me", "letter"]
  d_repeats : DefOk K mg "repeats" s_repeats ["group", "me", "vouches", "votes", "readies", "height"]
  d_gives : DefOk K mg "gives" s_gives ["receiver", "blocks", "height"]
  d_answers : DefOk K mg "answers" s_answers ["rows"]
  d_is_integer : DefOk K mg "is_integer" s_is_integer ["value", "least", "greatest"]
  d__law_cell : DefOk K mg "_law_cell" s__law_cell ["script", "k"]
  d__law_shift : DefOk K mg "_law_shift" s__law_shift ["number", "base", "places"]
  d__law_draws : DefOk K mg "_law_draws" s__law_draws ["script", "start", "most"]
  d__law_block : DefOk K mg "_law_block" s__law_block ["number"]
  d__law_all : DefOk K mg "_law_all" s__law_all ["me", "machines", "letters"]
  d_law : DefOk K mg "law" s_law ["script"]
  cl_Group : Cls K C_Group
  g_Group : mg "Group" = some (.ref C_Group)
  na_Group_faults : NoAttr K C_Group "faults"
  na_Group_machines : NoAttr K C_Group "machines"
  na_Group_quorum : NoAttr K C_Group "quorum"
  na_Group_blocking : NoAttr K C_Group "blocking"
  mk_Group : MakOk K C_Group "Group.__init__" s_Group____init__ ["self", "faults"]
  me_Group__members : MethOk K C_Group "members" "Group.members" s_Group__members ["self"]
  x_BadGroup : ExOk K mg "BadGroup" C_BadGroup
  u_BadGroup_BadGroup : PySem.W.subIn K (.ref C_BadGroup) (.ref C_BadGroup) = some true
  c_MOST_FAULTS : ∃ u, mg "MOST_FAULTS" = some u ∧ RelV (.int 10) u
  z_abs : mg "abs" = none
  z_bool : mg "bool" = none
  z_int : mg "int" = none
  z_isinstance : mg "isinstance" = none
  z_len : mg "len" = none
  z_list : mg "list" = none
  z_range : mg "range" = none
set_option pp.maxSteps 150
/-! ### the draws of a script -/
def Dr (H : Hp) (D A : Addr) : Prop := D ≠ A ∧ ∃ (ds : List Int) (n : Nat), H D = some (.lst (ds.map V.int)) ∧ H A = some (.lst [.int n]) ∧ (∀ d ∈ ds, 0 ≤ d ∧ d < 1000) ∧ ds.length ≤ 2520
/-- all that was tracked but A is as it was -/
def Mod (A : Addr) (H H' : Hp) : Prop := ∀ b o, b ≠ A → H b = some o → H' b = some o
theorem Mod.refl {A : Addr} {H : Hp} : Mod A H H := fun _ _ _ h => h
theorem Mod.trans {A : Addr} {H H1 H2 : Hp} (a : Mod A H H1) (b : Mod A H1 H2) : Mod A H H2 := fun c o n h => b c o n (a c o n h)
theorem Same.mod {A : Addr} {H H' : Hp} (s : Same H H') : Mod A H H' := fun b o _ h => s b o h
theorem Mod.new {A p : Addr} {o : HO} {H H' : Hp} (s : Mod A H H') (h : H' p = none) : Mod A H (upd H' p o) := fun b u n e => by
  rw [upd_ne (ne_of_none (s b u n e) h)]
  exact s b u n e
theorem Dr.new {D A p : Addr} {o : HO} {H : Hp} (d : Dr H D A) (h : H p = none) : Dr (upd H p o) D A := by
  obtain ⟨ne, ds, n, h1, h2, h3⟩ := d
  exact ⟨ne, ds, n, by rw [upd_ne (ne_of_none h1 h)]; exact h1, by rw [upd_ne (ne_of_none h2 h)]; exact h2, h3⟩
theorem Dr.same {D A : Addr} {H H' : Hp} (d : Dr H D A) (s : Same H H') : Dr H' D A := by
  obtain ⟨ne, ds, n, h1, h2, h3⟩ := d
  exact ⟨ne, ds, n, s _ _ h1, s _ _ h2, h3⟩
/-- an object that is neither D nor A is changed -/
theorem Dr.put {D A p : Addr} {o : HO} {H : Hp} (d : Dr H D A) (h1 : p ≠ D) (h2 : p ≠ A) : Dr (upd H p o) D A := by
  obtain ⟨ne, ds, n, e1, e2, h3⟩ := d
  exact ⟨ne, ds, n, by rw [upd_ne h1.symm]; exact e1, by rw [upd_ne h2.symm]; exact e2, h3⟩
theorem Dr.freshA {D A p : Addr} {H : Hp} (d : Dr H D A) (h : H p = none) : p ≠ A := by
  obtain ⟨_, _, _, _, e, _⟩ := d
  exact (ne_of_none e h).symm
theorem Dr.freshD {D A p : Addr} {H : Hp} (d : Dr H D A) (h : H p = none) : p ≠ D := by
  obtain ⟨_, _, _, e, _⟩ := d
  exact (ne_of_none e h).symm
theorem Mod.free {A p : Addr} {H H' : Hp} (s : Mod A H H') (d : ∃ o, H' A = some o) (h : H' p = none) : H p = none := by
  cases e : H p with
  | none => rfl
  | some o =>
    by_cases hp : p = A
    · subst hp
      obtain ⟨o', e'⟩ := d
      rw [e'] at h; cases h
    · rw [s p o hp e] at h; cases h
theorem Dr.A_in {D A : Addr} {H : Hp} (d : Dr H D A) : ∃ o, H A = some o := by
  obtain ⟨_, _, _, _, e, _⟩ := d
  exact ⟨_, e⟩
theorem rng_app {ds : List Int} {x : Int} (h : ∀ d ∈ ds, 0 ≤ d ∧ d < 1000) (h0 : 0 ≤ x) (h1 : x < 1000) : ∀ d ∈ ds ++ [x], 0 ≤ d ∧ d < 1000 := fun d hd => by
  rcases List.mem_append.mp hd with hd | hd
  · exact h d hd
  · rw [List.mem_singleton.mp hd]; exact ⟨h0, h1⟩

/-! ### drawn numbers and strings -/
def prC (c : Nat) : Bool := decide (32 ≤ c) && decide (c ≤ 126) && decide (c ≠ 37)
def isPr (z : Str) : Bool := z.cps.toList.all prC
theorem app_tl (a b : Str) : (a ++ b).cps.toList = a.cps.toList ++ b.cps.toList := by
  show (a.cps ++ b.cps).toList = _
  rw [Array.toList_append]
theorem len_tl (z : Str) : z.cps.toList.length = z.length := Array.length_toList
theorem isPr_app (a b : Str) : isPr (a ++ b) = (isPr a && isPr b) := by
  unfold isPr
  rw [app_tl, List.all_append]

/-! ### values as data: what stands at them does not change -/
def TupAt (K : PySem.W.Frag) (H : Hp) (a : Addr) (xs : List V) : Prop := H a = some (.tup xs) ∨ KTup K a xs
section
variable {K : PySem.W.Frag}
theorem TupAt.sq {H : Hp} {a : Addr} {xs : List V} (h : TupAt K H a xs) : SqT K H a xs := h.elim SqT.of .inr
theorem TupAt.ty {H : Hp} {a : Addr} {xs : List V} (h : TupAt K H a xs) : TyX K H (.ref a) (.type "tuple") := h.elim (fun h => .base (.tup h)) (fun ⟨_, _, _, h1, h2, _⟩ => .kTuple h1 h2)
theorem TupAt.same {H H' : Hp} {a : Addr} {xs : List V} (h : TupAt K H a xs) (s : Same H H') : TupAt K H' a xs := h.imp (s _ _) id
/-- none of those at A (none: no matter) -/
def NeA (A : Option Addr) (a : Addr) : Prop := match A with | some b => a ≠ b | none => True
mutual
/-- v is the data d; the lists in it are none of those at A -/
inductive Dt (K : PySem.W.Frag) (H : Hp) (A : Option Addr) : V → PyData → Prop
  | non : Dt K H A .non .none
  | bl (b : Bool) : Dt K H A (.bl b) (.bool b)
  | int (i : Int) : Dt K H A (.int i) (.int i)
  | str (z : Str) (h : z.length ≤ 1000000) : Dt K H A (.str z) (.str z)
  | lst {a : Addr} {xs : List V} {ds : List PyData} : NeA A a → H a = some (.lst xs) → DtAll K H A xs ds → Dt K H A (.ref a) (.list ds)
  | tup {a : Addr} {xs : List V} {ds : List PyData} : TupAt K H a xs → DtAll K H A xs ds → Dt K H A (.ref a) (.tuple ds)
inductive DtAll (K : PySem.W.Frag) (H : Hp) (A : Option Addr) : List V → List PyData → Prop
  | nil : DtAll K H A [] []
  | cons {v : V} {vs : List V} {d : PyData} {ds : List PyData} : Dt K H A v d → DtAll K H A vs ds → DtAll K H A (v :: vs) (d :: ds)
end
theorem DtAll.length {H : Hp} {A : Option Addr} : ∀ {xs : List V} {ds : List PyData}, DtAll K H A xs ds → xs.length = ds.length
  | _, _, .nil => rfl
  | _, _, .cons _ r => by rw [List.length_cons, List.length_cons, r.length]
theorem DtAll.get {H : Hp} {A : Option Addr} : ∀ {xs : List V} {ds : List PyData} {i : Nat} {x : V}, DtAll K H A xs ds → xs[i]? = some x → ∃ d, ds[i]? = some d ∧ Dt K H A x d
  | _, _, _, _, .nil, e => by simp at e
  | _, _, 0, x, .cons h _, e => by simp at e; subst e; exact ⟨_, rfl, h⟩
  | _, _, i + 1, x, .cons _ r, e => by
    obtain ⟨d, h1, h2⟩ := r.get (i := i) (x := x) (by simpa using e)
    exact ⟨d, by simpa using h1, h2⟩
theorem DtAll.getD {H : Hp} {A : Option Addr} {xs : List V} {ds : List PyData} {i : Nat} {d : PyData} (h : DtAll K H A xs ds) (e : ds[i]? = some d) : ∃ x, xs[i]? = some x ∧ Dt K H A x d := by
  have hi : i < ds.length := (List.getElem?_eq_some_iff.mp e).1
  have hi' : i < xs.length := by rw [h.length]; exact hi
  obtain ⟨d', h1, h2⟩ := h.get (List.getElem?_eq_getElem hi')
  rw [e] at h1
  cases h1
  exact ⟨_, List.getElem?_eq_getElem hi', h2⟩
mutual
theorem Dt.mod {H H' : Hp} {A D : Addr} (s : Mod A H H') (dr : Dr H D A) : ∀ (d : PyData) (v : V), Dt K H (some A) v d → Dt K H' (some A) v d
  | .none, _, h => by cases h; exact .non
  | .bool b, _, h => by cases h; exact .bl b
  | .int i, _, h => by cases h; exact .int i
  | .str z, _, h => by cases h with | str _ hz => exact .str z hz
  | .list ds, _, h => by cases h with | lst hn ha hd => exact .lst hn (s _ _ hn ha) (DtAll.mod s dr ds _ hd)
  | .tuple ds, _, h => by
    cases h with
    | tup ha hd =>
      obtain ⟨_, _, _, _, e, _⟩ := id dr
      exact .tup (ha.imp (fun ha => s _ _ (ne_of ha e (by intro z; cases z)) ha) id) (DtAll.mod s dr ds _ hd)
  | .dict _, _, h => by cases h
theorem DtAll.mod {H H' : Hp} {A D : Addr} (s : Mod A H H') (dr : Dr H D A) : ∀ (ds : List PyData) (xs : List V), DtAll K H (some A) xs ds → DtAll K H' (some A) xs ds
  | [], _, h => by cases h; exact .nil
  | d :: ds, _, h => by cases h with | cons h1 h2 => exact .cons (Dt.mod s dr d _ h1) (DtAll.mod s dr ds _ h2)
end
mutual
theorem Dt.same {H H' : Hp} {A : Option Addr} (s : Same H H') : ∀ (d : PyData) (v : V), Dt K H A v d → Dt K H' A v d
  | .none, _, h => by cases h; exact .non
  | .bool b, _, h => by cases h; exact .bl b
  | .int i, _, h => by cases h; exact .int i
  | .str z, _, h => by cases h with | str _ hz => exact .str z hz
  | .list ds, _, h => by cases h with | lst hn ha hd => exact .lst hn (s _ _ ha) (DtAll.same s ds _ hd)
  | .tuple ds, _, h => by cases h with | tup ha hd => exact .tup (ha.same s) (DtAll.same s ds _ hd)
  | .dict _, _, h => by cases h
theorem DtAll.same {H H' : Hp} {A : Option Addr} (s : Same H H') : ∀ (ds : List PyData) (xs : List V), DtAll K H A xs ds → DtAll K H' A xs ds
  | [], _, h => by cases h; exact .nil
  | d :: ds, _, h => by cases h with | cons h1 h2 => exact .cons (Dt.same s d _ h1) (DtAll.same s ds _ h2)
end
mutual
/-- data for a comparison -/
theorem Dt.dp {H : Hp} {A : Option Addr} : ∀ (d : PyData) (v : V), Dt K H A v d → Dp K H v d
  | .none, _, h => by cases h; exact .non
  | .bool b, _, h => by cases h; exact .bl b
  | .int i, _, h => by cases h; exact .int i
  | .str z, _, h => by cases h; exact .str z
  | .list ds, _, h => by cases h with | lst hn ha hd => exact .lst (SqL.of ha) (DtAll.dp ds _ hd)
  | .tuple ds, _, h => by cases h with | tup ha hd => exact .tup ha.sq (DtAll.dp ds _ hd)
  | .dict _, _, h => by cases h
theorem DtAll.dp {H : Hp} {A : Option Addr} : ∀ (ds : List PyData) (xs : List V), DtAll K H A xs ds → DpAll K H xs ds
  | [], _, h => by cases h; exact .nil
  | d :: ds, _, h => by cases h with | cons h1 h2 => exact .cons (Dt.dp d _ h1) (DtAll.dp ds _ h2)
end
theorem Dt.on {H H' : Hp} {A : Option Addr} {v : V} {d : PyData} (h : Dt K H A v d) (s : Same H H') : Dt K H' A v d := Dt.same s d v h
theorem DtAll.on {H H' : Hp} {A : Option Addr} {xs : List V} {ds : List PyData} (h : DtAll K H A xs ds) (s : Same H H') : DtAll K H' A xs ds := DtAll.same s ds xs h
theorem Dt.by {H H' : Hp} {A D : Addr} {v : V} {d : PyData} (h : Dt K H (some A) v d) (s : Mod A H H') (dr : Dr H D A) : Dt K H' (some A) v d := Dt.mod s dr d v h
theorem DtAll.by {H H' : Hp} {A D : Addr} {xs : List V} {ds : List PyData} (h : DtAll K H (some A) xs ds) (s : Mod A H H') (dr : Dr H D A) : DtAll K H' (some A) xs ds := DtAll.mod s dr ds xs h
theorem Dt.two {H : Hp} {A : Option Addr} {v : V} {d : PyData} (h : Dt K H A v d) : (∃ a xs ds, v = .ref a ∧ d = .tuple ds ∧ TupAt K H a xs ∧ DtAll K H A xs ds) ∨ (∃ T, TyX K H v (.type T) ∧ kitB T "tuple" = some false ∧ ∀ ds, d ≠ .tuple ds) := by
  cases h with
  | tup ha hx => exact .inl ⟨_, _, _, rfl, rfl, ha, hx⟩
  | str z hz => exact .inr ⟨_, .base (.str z), by decide +kernel, fun _ z => nomatch z⟩
  | int i => exact .inr ⟨_, .base (.int i), by decide +kernel, fun _ z => nomatch z⟩
  | non => exact .inr ⟨_, .base .non, by decide +kernel, fun _ z => nomatch z⟩
  | bl b => exact .inr ⟨_, .base (.bl b), by decide +kernel, fun _ z => nomatch z⟩
  | lst _ ha _ => exact .inr ⟨_, .base (.lst ha), by decide +kernel, fun _ z => nomatch z⟩
/-- the kind of a value -/
def dTy : PyData → String
  | .none => "NoneType" | .bool _ => "bool" | .int _ => "int" | .str _ => "str" | .list _ => "list" | .tuple _ => "tuple" | .dict _ => "dict"
theorem Dt.ty {H : Hp} {A : Option Addr} {v : V} {d : PyData} (h : Dt K H A v d) : TyX K H v (.type (dTy d)) := by
  cases h with
  | non => exact .base .non
  | bl b => exact .base (.bl b)
  | int i => exact .base (.int i)
  | str z _ => exact .base (.str z)
  | lst _ ha _ => exact .base (.lst ha)
  | tup ha _ => exact ha.ty
/-! the predicates of the program, upon data -/
def dInt (lo hi : Int) : PyData → Bool
  | .int i => decide (lo ≤ i ∧ i ≤ hi)
  | _ => false
def dShort (m : Int) : PyData → Bool
  | .str z => isPr z && decide ((z.length : Int) ≤ m)
  | _ => false
def dCmd : PyData → Bool
  | .tuple [c, n, t] => dInt (-100) (-1) c && dInt 1 1000000000000 n && dShort 240 t
  | _ => false
def dClient : PyData → Int
  | .tuple (.int c :: _) => c
  | _ => 0
def dAfter : Option Int → PyData → Bool
  | some k, d => decide (k < dClient d)
  | none, _ => true
def befV : Option Int → V
  | some k => .int k
  | none => .non
def dCmdsFrom : Option Int → List PyData → Bool
  | _, [] => true
  | b, d :: r => dCmd d && dAfter b d && dCmdsFrom (some (dClient d)) r
theorem dCmdsFrom_cons (b : Option Int) (d : PyData) (r : List PyData) : dCmdsFrom b (d :: r) = (dCmd d && dAfter b d && dCmdsFrom (some (dClient d)) r) := by cases b <;> rfl
theorem dCmdsFrom_nil (b : Option Int) : dCmdsFrom b [] = true := by cases b <;> rfl
def dCmds : PyData → Bool
  | .tuple ds => dCmdsFrom none ds
  | _ => false
def dHeight (parent : Int) (h : PyData) : Bool := if parent = 0 then dInt 1 1 h else dInt 2 (parent + 1) h
def dBlock4 (e p h cs : PyData) : Bool := match e, p with
  | .int e, .int p => dInt 1 1000000000000 (.int e) && dInt 0 (e - 1) (.int p) && dHeight p h && dCmds cs
  | _, _ => false
def dBlock : PyData → Bool
  | .tuple [e, p, h, cs] => dBlock4 e p h cs
  | _ => false
def dEmpty : PyData → Bool
  | .tuple [] => true
  | _ => false
def dGen : PyData → Bool
  | .tuple [e, p, h, cs] => dInt 0 0 e && dInt 0 0 p && dInt 0 0 h && dEmpty cs
  | _ => false
theorem DtAll.four {H : Hp} {A : Option Addr} {xs : List V} {ds : List PyData} (h : DtAll K H A xs ds) (hl : xs.length = 4) :
    ∃ x1 x2 x3 x4 d1 d2 d3 d4, xs = [x1, x2, x3, x4] ∧ ds = [d1, d2, d3, d4] ∧ Dt K H A x1 d1 ∧ Dt K H A x2 d2 ∧ Dt K H A x3 d3 ∧ Dt K H A x4 d4 := by
  match xs, ds, h with
  | [_, _, _, _], _, .cons h1 (.cons h2 (.cons h3 (.cons h4 .nil))) => exact ⟨_, _, _, _, _, _, _, _, rfl, rfl, h1, h2, h3, h4⟩
theorem dBlock4_e1 {e p h cs : PyData} (z : dInt 1 1000000000000 e = false) : dBlock4 e p h cs = false := by
  unfold dBlock4
  split
  · rw [z]; rfl
  · rfl
theorem dBlock4_e2 {e : Int} {p h cs : PyData} (z : dInt 0 (e - 1) p = false) : dBlock4 (.int e) p h cs = false := by
  unfold dBlock4
  split
  · rename_i h1
    cases h1
    rw [z, Bool.and_false]; rfl
  · rfl
/-- a predicate of one value, kept by growing heaps -/
def spPred (K : PySem.W.Frag) (A : Option Addr) (f : PyData → Bool) : Sp := fun vs H Q _ => ∃ (v : V) (d : PyData), vs = [v] ∧ Dt K H A v d ∧ ∀ H', Same H H' → Q (.bl (f d)) H'
def spIntD (K : PySem.W.Frag) (A : Option Addr) : Sp := fun vs H Q _ => ∃ (v : V) (d : PyData) (lo hi : Int), vs = [v, .int lo, .int hi] ∧ Dt K H A v d ∧ Q (.bl (dInt lo hi d)) H
def spShortD (K : PySem.W.Frag) (A : Option Addr) : Sp := fun vs H Q _ => ∃ (v : V) (d : PyData) (m : Int), vs = [v, .int m] ∧ Dt K H A v d ∧ ∀ H', Same H H' → Q (.bl (dShort m d)) H'
theorem dInt_inv {lo hi : Int} {d : PyData} (h : dInt lo hi d = true) : ∃ i, d = .int i ∧ lo ≤ i ∧ i ≤ hi := by
  cases d with
  | int i =>
    have h : decide (lo ≤ i ∧ i ≤ hi) = true := h
    exact ⟨i, rfl, (of_decide_eq_true h).1, (of_decide_eq_true h).2⟩
  | none => cases h
  | bool b => cases h
  | str z => cases h
  | list ds => cases h
  | tuple ds => cases h
  | dict k => cases h
theorem dShort_inv {m : Int} {d : PyData} (h : dShort m d = true) : ∃ z : Str, d = .str z ∧ isPr z = true ∧ (z.length : Int) ≤ m := by
  cases d with
  | str z =>
    have h : (isPr z && decide ((z.length : Int) ≤ m)) = true := h
    obtain ⟨h1, h2⟩ := Bool.and_eq_true_iff.mp h
    exact ⟨z, rfl, h1, of_decide_eq_true h2⟩
  | none => cases h
  | bool b => cases h
  | int i => cases h
  | list ds => cases h
  | tuple ds => cases h
  | dict k => cases h
theorem dCmd_inv {d : PyData} (h : dCmd d = true) : ∃ (c n : Int) (t : Str), d = .tuple [.int c, .int n, .str t] ∧ -100 ≤ c ∧ c ≤ -1 ∧ 1 ≤ n ∧ n ≤ 1000000000000 ∧ isPr t = true ∧ (t.length : Int) ≤ 240 := by
  unfold dCmd at h
  split at h
  · rename_i c n t
    rw [Bool.and_eq_true, Bool.and_eq_true] at h
    obtain ⟨⟨h1, h2⟩, h3⟩ := h
    obtain ⟨c, rfl, c0, c1⟩ := dInt_inv h1
    obtain ⟨n, rfl, n0, n1⟩ := dInt_inv h2
    obtain ⟨t, rfl, t0, t1⟩ := dShort_inv h3
    exact ⟨c, n, t, rfl, c0, c1, n0, n1, t0, t1⟩
  · cases h
/-- what a tuple of three ints, ints, texts stands for -/
theorem Dt.three {H : Hp} {A : Option Addr} {v : V} {d1 d2 d3 : PyData} (h : Dt K H A v (.tuple [d1, d2, d3])) : ∃ a x1 x2 x3, v = .ref a ∧ TupAt K H a [x1, x2, x3] ∧ Dt K H A x1 d1 ∧ Dt K H A x2 d2 ∧ Dt K H A x3 d3 := by
  cases h with
  | tup ha hd =>
    cases hd with
    | cons h1 hd =>
      cases hd with
      | cons h2 hd =>
        cases hd with
        | cons h3 hd =>
          cases hd
          exact ⟨_, _, _, _, rfl, ha, h1, h2, h3⟩
mutual
theorem Dt.any {H : Hp} {A : Option Addr} : ∀ (d : PyData) (v : V), Dt K H A v d → Dt K H none v d
  | .none, _, h => by cases h; exact .non
  | .bool b, _, h => by cases h; exact .bl b
  | .int i, _, h => by cases h; exact .int i
  | .str z, _, h => by cases h with | str _ hz => exact .str z hz
  | .list ds, _, h => by cases h with | lst hn ha hd => exact .lst trivial ha (DtAll.any ds _ hd)
  | .tuple ds, _, h => by cases h with | tup ha hd => exact .tup ha (DtAll.any ds _ hd)
  | .dict _, _, h => by cases h
theorem DtAll.any {H : Hp} {A : Option Addr} : ∀ (ds : List PyData) (xs : List V), DtAll K H A xs ds → DtAll K H none xs ds
  | [], _, h => by cases h; exact .nil
  | d :: ds, _, h => by cases h with | cons h1 h2 => exact .cons (Dt.any d _ h1) (DtAll.any ds _ h2)
end
theorem Dt.an {H : Hp} {A : Option Addr} {v : V} {d : PyData} (h : Dt K H A v d) : Dt K H none v d := Dt.any d v h
/-! data without lists -/
mutual
def noL : PyData → Bool
  | .list _ => false
  | .tuple ds => noLs ds
  | _ => true
def noLs : List PyData → Bool
  | [] => true
  | d :: r => noL d && noLs r
end
/-- tracked tuples stay -/
def Tp (H H' : Hp) : Prop := ∀ a xs, H a = some (.tup xs) → H' a = some (.tup xs)
mutual
theorem Dt.keep {H H' : Hp} {A B : Option Addr} (t : Tp H H') : ∀ (d : PyData) (v : V), noL d = true → Dt K H A v d → Dt K H' B v d
  | .none, _, _, h => by cases h; exact .non
  | .bool b, _, _, h => by cases h; exact .bl b
  | .int i, _, _, h => by cases h; exact .int i
  | .str z, _, _, h => by cases h with | str _ hz => exact .str z hz
  | .list ds, _, n, _ => by cases n
  | .tuple ds, _, n, h => by cases h with | tup ha hd => exact .tup (ha.imp (t _ _) id) (DtAll.keep t ds _ n hd)
  | .dict _, _, _, h => by cases h
theorem DtAll.keep {H H' : Hp} {A B : Option Addr} (t : Tp H H') : ∀ (ds : List PyData) (xs : List V), noLs ds = true → DtAll K H A xs ds → DtAll K H' B xs ds
  | [], _, _, h => by cases h; exact .nil
  | d :: ds, _, n, h => by
    have n : (noL d && noLs ds) = true := n
    rw [Bool.and_eq_true] at n
    cases h with | cons h1 h2 => exact .cons (Dt.keep t d _ n.1 h1) (DtAll.keep t ds _ n.2 h2)
end
theorem DtAll.snoc {H : Hp} {A : Option Addr} : ∀ {xs : List V} {ds : List PyData} {x : V} {d : PyData}, DtAll K H A xs ds → Dt K H A x d → DtAll K H A (xs ++ [x]) (ds ++ [d])
  | _, _, _, _, .nil, h => .cons h .nil
  | _, _, _, _, .cons h r, h2 => .cons h (r.snoc h2)
theorem TupAt.tp {H H' : Hp} {a : Addr} {xs : List V} (h : TupAt K H a xs) (t : Tp H H') : TupAt K H' a xs := h.imp (t _ _) id
theorem Same.tp {H H' : Hp} (s : Same H H') : Tp H H' := fun _ _ h => s _ _ h
theorem Mod.tp {H H' : Hp} {A D : Addr} (s : Mod A H H') (dr : Dr H D A) : Tp H H' := fun a xs h => by
  obtain ⟨_, _, _, _, e, _⟩ := id dr
  exact s _ _ (ne_of h e (by intro z; cases z)) h
theorem tp_put {H : Hp} {l : Addr} {xs ys : List V} (h : H l = some (.lst xs)) : Tp H (upd H l (.lst ys)) := fun a zs e => by
  rw [upd_ne (ne_of e h (by intro z; cases z))]; exact e
theorem dCmd_noL {d : PyData} (h : dCmd d = true) : noL d = true := by
  obtain ⟨c, n, t, rfl, _⟩ := dCmd_inv h
  rfl
theorem dCmdsFrom_noL : ∀ {ds : List PyData} {b : Option Int}, dCmdsFrom b ds = true → noLs ds = true
  | [], _, _ => rfl
  | d :: r, b, h => by
    rw [dCmdsFrom_cons, Bool.and_eq_true, Bool.and_eq_true] at h
    show (noL d && noLs r) = true
    rw [dCmd_noL h.1.1, dCmdsFrom_noL h.2]; rfl
theorem dCmdsFrom_all : ∀ {ds : List PyData} {b : Option Int}, dCmdsFrom b ds = true → ∀ d ∈ ds, dCmd d = true
  | [], _, _, _, m => nomatch m
  | d :: r, b, h, e, m => by
    rw [dCmdsFrom_cons, Bool.and_eq_true, Bool.and_eq_true] at h
    rcases List.mem_cons.mp m with rfl | m
    · exact h.1.1
    · exact dCmdsFrom_all h.2 e m
def lastC : Option Int → List PyData → Option Int
  | b, [] => b
  | _, d :: r => lastC (some (dClient d)) r
theorem lastC_snoc : ∀ (ds : List PyData) (b : Option Int) (d : PyData), lastC b (ds ++ [d]) = some (dClient d)
  | [], _, _ => rfl
  | _ :: r, _, d => lastC_snoc r _ d
theorem dCmdsFrom_snoc : ∀ (ds : List PyData) (b : Option Int) (d : PyData), dCmdsFrom b (ds ++ [d]) = (dCmdsFrom b ds && (dCmd d && dAfter (lastC b ds) d))
  | [], b, d => by
    show dCmdsFrom b [d] = _
    rw [dCmdsFrom_cons, dCmdsFrom_nil, dCmdsFrom_nil, Bool.and_true, Bool.true_and]; rfl
  | e :: r, b, d => by
    show dCmdsFrom b (e :: (r ++ [d])) = _
    rw [dCmdsFrom_cons, dCmdsFrom_snoc r, dCmdsFrom_cons, Bool.and_assoc, Bool.and_assoc, Bool.and_assoc]; rfl
end
theorem noLs_all : ∀ {ds : List PyData}, (∀ d ∈ ds, noL d = true) → noLs ds = true
  | [], _ => rfl
  | d :: r, h => by
    show (noL d && noLs r) = true
    rw [h d List.mem_cons_self, noLs_all (fun e he => h e (List.mem_cons_of_mem _ he))]; rfl

theorem atI_lt {α : Type} {xs : List α} {i : Int} (h0 : 0 ≤ i) (h1 : i < xs.length) : ∃ v, v ∈ xs ∧ atI xs i = some v := by
  obtain ⟨j, rfl⟩ := Int.eq_ofNat_of_zero_le h0
  have hj : j < xs.length := Int.ofNat_lt.mp h1
  exact ⟨xs[j], List.getElem_mem hj, atI_nat (List.getElem?_eq_getElem hj)⟩

/-! ### the draws of a script, by its cells -/
def cellA (ns : List Int) (k : Nat) : Int := ((ns.getD k 0).natAbs : Int)
theorem cellA_nonneg (ns : List Int) (k : Nat) : 0 ≤ cellA ns k := Int.natCast_nonneg _
def spCellA (K : PySem.W.Frag) : Sp := fun vs H Q _ => ∃ (a : Addr) (ns : List Int) (k : Nat), vs = [.ref a, .int k] ∧ SqL K H a (ns.map V.int) ∧ Q (.int (cellA ns k)) H
def spDraws2 (K : PySem.W.Frag) : Sp := fun vs H Q _ => ∃ (a : Addr) (ns : List Int) (st most : Nat), vs = [.ref a, .int st, .int most] ∧ SqL K H a (ns.map V.int) ∧ ns.length ≤ 63 ∧
  ∀ (H' : Hp) (D : Addr) (ds : List Int), Same H H' → H D = none → H' D = some (.lst (ds.map V.int)) → (∀ d ∈ ds, 0 ≤ d ∧ d < 1000000000000000000) → ds.length ≤ most → Q (.ref D) H'
theorem same_none {H H' : Hp} {p : Addr} (s : Same H H') (h : H' p = none) : H p = none := by
  cases e : H p with
  | none => rfl
  | some o => rw [s p o e] at h; cases h

theorem abs_natAbs (i : Int) : (if i < 0 then -i else i) = (i.natAbs : Int) := by split <;> omega
theorem rng_app2 {ds : List Int} {x : Int} (h : ∀ d ∈ ds, 0 ≤ d ∧ d < 1000000000000000000) (h0 : 0 ≤ x) (h1 : x < 1000000000000000000) : ∀ d ∈ ds ++ [x], 0 ≤ d ∧ d < 1000000000000000000 := fun d hd => by
  rcases List.mem_append.mp hd with hd | hd
  · exact h d hd
  · rw [List.mem_singleton.mp hd]; exact ⟨h0, h1⟩
theorem cutV_map {α : Type} (f : α → V) (xs : List α) (lo hi : Option Int) : ∃ ys : List α, cutV (xs.map f) lo hi = ys.map f ∧ ys.length ≤ xs.length ∧ (∀ y ∈ ys, y ∈ xs) := by
  refine ⟨(xs.drop (HT.sIx xs.length 0 lo)).take (HT.sIx xs.length xs.length hi - HT.sIx xs.length 0 lo), ?_, ?_, ?_⟩
  · unfold cutV
    rw [List.length_map, List.map_take, List.map_drop]
  · rw [List.length_take, List.length_drop]; omega
  · intro y hy
    exact List.mem_of_mem_drop (List.mem_of_mem_take hy)
theorem cutV_most (xs : List Int) (m : Nat) : ∃ ys : List Int, cutV (xs.map V.int) none (some (m : Int)) = ys.map V.int ∧ ys.length ≤ m ∧ (∀ y ∈ ys, y ∈ xs) := by
  obtain ⟨ys, e, _, h⟩ := cutV_map V.int xs none (some (m : Int))
  refine ⟨ys, e, ?_, h⟩
  have hl := congrArg List.length e
  rw [List.length_map] at hl
  rw [← hl]
  unfold cutV
  rw [List.length_take, List.length_drop]
  have : HT.sIx (xs.map V.int).length (xs.map V.int).length (some (m : Int)) ≤ m := by
    rw [HT.sIx_nat]
    exact Nat.min_le_left _ _
  omega
section
variable {P : Program} {w : World} {K : PySem.W.Frag} {mg : Str → Option Value} {base : Heap}
theorem c__law_cell {C_Group : Addr} {C_BadGroup : Addr} (T : Txt K mg C_Group C_BadGroup) : Cal P w K mg base 1 "_law_cell" (spCellA K) [] := by
  refine cal T.d__law_cell sc__law_cell (fun vs H Q E h => ?_) (fun f cdv A outer s H vs Q E hr h => ?_)
  · obtain ⟨a, ns, k, rfl, _⟩ := h; rfl
  obtain ⟨a, ns, k, rfl, hS, q⟩ := h
  refine ⟨_, (pss_cons (ps_if (pt_cmpR op_lt (pv 1) (pe_callB (klen (K := K)) (by rfl) T.z_len (by decide +kernel) (pa_cons (pv 0) pa_nil)) (nomark _)) (pss_one (ps_ret (pe_callB call_abs (by rfl) T.z_abs (by decide +kernel) (pa_cons (pe_callTy call_int1 (by rfl) T.z_int (by decide +kernel) (pa_cons (pe_ix (kixl (K := K)) (pv 0) (pv 1) (fun _ _ => rfl)) pa_nil)) pa_nil)))) pss_nil)
      (pss_one (ps_ret pe_int))), ?_⟩
  refine ⟨.int k, rfl, .ref a, rfl, a, _, rfl, .inl hS, _, _, rfl, rfl, _, rfl, ite2 (fun e => ?_) (fun e => ?_)⟩
  · have e := of_decide_eq_true e
    rw [List.length_map] at e
    have e1 : k < ns.length := by omega
    have g : (ns.map V.int)[k]? = some (.int (ns.getD k 0)) := by
      rw [List.getElem?_map, List.getD_eq_getElem?_getD, List.getElem?_eq_getElem e1]; rfl
    refine ⟨.ref a, rfl, .int k, rfl, a, _, _, _, rfl, rfl, hS, atI_nat g, ?_⟩
    walk_at "rds"
    rw [abs_natAbs]
    exact q
  · have e2 : ¬ ((k : Int) < ((ns.map V.int).length : Int)) := fun z => e (decide_eq_true z)
    rw [List.length_map] at e2
    have e1 : ns.getD k 0 = 0 := by
      rw [List.getD_eq_getElem?_getD, List.getElem?_eq_none (by omega)]; rfl
    unfold cellA at q
    rw [e1] at q
    exact q
theorem c__law_draws {C_Group : Addr} {C_BadGroup : Addr} (T : Txt K mg C_Group C_BadGroup) : Cal P w K mg base 1 "_law_draws" (spDraws2 K) [] := by
  refine cal T.d__law_draws sc__law_draws (fun vs H Q E h => ?_) (fun f cdv A outer s H vs Q E hr h => ?_)
  · obtain ⟨a, ns, st, most, rfl, _⟩ := h; rfl
  obtain ⟨a, ns, st, most, rfl, hS, hlen, q⟩ := h
  refine ⟨_, (pss_cons (ps_set (i := 3) sc__law_draws.nd rfl (Or.inl rfl) (pe_lst pa_nil))
      (pss_cons (ps_for PassesOwn.never rfl (pi_list (pe_slice (ksll (K := K)) (pv 0) (po_some (pv 1)) po_none)) (pg_name (i := 4) sc__law_draws.nd rfl (Or.inl rfl)) (pss_cons (ps_set (i := 5) sc__law_draws.nd rfl (Or.inl rfl) (pe_callB call_abs (by rfl) T.z_abs (by decide +kernel) (pa_cons (pe_callTy call_int1 (by rfl) T.z_int (by decide +kernel) (pa_cons (pv 4) pa_nil)) pa_nil)))
      (pss_one (ps_if (pt_cmpR op_lt (pv 5) (pe_op op_pow pe_int pe_int) (nomark _)) (pss_cons (ps_set (i := 6) sc__law_draws.nd rfl (Or.inl rfl) (pe_op op_mod (pe_callTy call_int1 (by rfl) T.z_int (by decide +kernel) (pa_cons (pe_op op_add (pe_op op_mul (pv 5) pe_int) pe_int) pa_nil)) pe_int))
      (pss_cons (ps_expr (pe_bm PySem.F.plainAttrs_list PySem.F.slot_list_append PySem.F.type_list_append mt_append (pv 3) (pa_cons (pv 5) pa_nil)))
      (pss_cons (ps_expr (pe_bm PySem.F.plainAttrs_list PySem.F.slot_list_append PySem.F.type_list_append mt_append (pv 3) (pa_cons (pe_op op_fdiv (pe_op op_mod (pe_callTy call_int1 (by rfl) T.z_int (by decide +kernel) (pa_cons (pe_op op_add (pe_op op_add (pe_op op_mul (pv 6) pe_int) (pe_op op_fdiv (pv 5) pe_int)) pe_int) pa_nil)) pe_int) pe_int) pa_nil)))
      (pss_one (ps_expr (pe_bm PySem.F.plainAttrs_list PySem.F.slot_list_append PySem.F.type_list_append mt_append (pv 3) (pa_cons (pe_op op_fdiv (pe_op op_mod (pe_callTy call_int1 (by rfl) T.z_int (by decide +kernel) (pa_cons (pe_op op_add (pe_op op_add (pe_op op_mul (pv 6) pe_int) (pe_op op_fdiv (pv 5) pe_int)) pe_int) pa_nil)) pe_int) pe_int) pa_nil))))))) (pss_one (ps_for PassesOwn.never rfl (pi_range1 (by rfl) T.z_range (pa_cons pe_int pa_nil)) (pg_name (i := 7) sc__law_draws.nd rfl (Or.inl rfl)) (pss_cons (ps_if (pt_cmpR op_gt (pv 5) pe_int (nomark _)) (pss_one (ps_expr (pe_bm PySem.F.plainAttrs_list PySem.F.slot_list_append PySem.F.type_list_append mt_append (pv 3) (pa_cons (pe_op op_mod (pe_callTy call_int1 (by rfl) T.z_int (by decide +kernel) (pa_cons (pv 5) pa_nil)) pe_int) pa_nil)))) pss_nil)
      (pss_one (ps_set (i := 5) sc__law_draws.nd rfl (Or.inl rfl) (pe_op op_fdiv (pv 5) pe_int))))))))))
      (pss_one (ps_ret (pe_slice (ksll (K := K)) (pv 3) po_none (po_some (pv 2))))))), ?_⟩
  refine ⟨by decide, fun D hD => ?_⟩
  walk_at "rds"
  refine ⟨a, _, rfl, (same_upd hD).seq hS, fun p hp => ?_⟩
  obtain ⟨cs, ecs, hcl, _⟩ := cutV_map V.int ns (some (st : Int)) none
  rw [ecs]
  have sp : Same H (upd (upd H D (.lst [])) p (.lst (cs.map V.int))) := (same_upd hD).trans (same_upd hp)
  have hpD : p ≠ D := fun e => by rw [e, upd_same] at hp; cases hp
  refine ⟨p, rfl, ⟨_, sq upd_same⟩, ?_⟩
  refine for_it (walk_list (K := K) (a := p) (xs := cs.map V.int)) (Pv := fun i σ H' => ∃ y4 y5 y6 y7 ds, σ = [some (.ref a), some (.int st), some (.int most), some (.ref D), y4, y5, y6, y7] ∧ Same H H' ∧ H' p = some (.lst (cs.map V.int)) ∧ H' D = some (.lst (ds.map V.int)) ∧ (∀ d ∈ ds, 0 ≤ d ∧ d < 1000000000000000000) ∧ ds.length ≤ 24 * i) ⟨none, none, none, none, [], rfl, sp, upd_same, by rw [upd_ne hpD.symm]; exact upd_same, by simp, by simp⟩ (fun i σ H' _ h => by obtain ⟨_, _, _, _, _, _, _, h, _⟩ := h; exact sq h) (fun i x σ H1 H2 hi hp' hy => ?_) (fun σ H1 hp' => ?_)
  · obtain ⟨y4, y5, y6, y7, ds, rfl, sm, hpp, hd, hrg, hl⟩ := hp'
    obtain ⟨rfl, gx⟩ := hy
    rw [List.length_map] at hi
    rw [List.getElem?_map, List.getElem?_eq_getElem hi] at gx
    obtain rfl : V.int cs[i] = x := Option.some.inj gx
    walk_at "rds"
    rw [abs_natAbs]
    have hc0 : 0 ≤ ((cs[i].natAbs : Nat) : Int) := Int.natCast_nonneg _
    generalize ((cs[i].natAbs : Nat) : Int) = c at hc0
    refine ite2 (fun e => ?_) (fun e => ?_)
    · have e : c < (10 : Int) ^ (18 : Int).toNat := of_decide_eq_true e
      have e18 : (10 : Int) ^ (18 : Int).toNat = 10 ^ 18 := rfl
      have hc1 : c < 1000000000000000000 := by omega
      walk_at "rds"
      refine ⟨.inl ⟨rfl, _, sq hd⟩, ?_⟩
      walk_at "rds"
      refine ⟨_, _, _, rfl, rfl, hd, by rw [List.length_map]; exact sz1000' (by omega), ?_⟩
      generalize c * 40692 + 17 = m0
      have hm0 : 0 ≤ m0 % 2147483399 := Int.emod_nonneg _ (by decide)
      have hm1 : m0 % 2147483399 < 2147483399 := Int.emod_lt_of_pos _ (by decide)
      have e1 : upd H2 D (.lst (ds.map V.int ++ [.int c])) D = some (.lst ((ds ++ [c]).map V.int)) := lst_app
      have s1 : Same H (upd H2 D (.lst (ds.map V.int ++ [.int c]))) := same_mut sm hD
      have p1 : (upd H2 D (.lst (ds.map V.int ++ [.int c]))) p = some (.lst (cs.map V.int)) := by rw [upd_ne hpD]; exact hpp
      have r1 := rng_app2 hrg hc0 hc1
      have l1 : (ds ++ [c]).length ≤ 24 * i + 1 := by rw [List.length_append, List.length_singleton]; omega
      generalize upd H2 D (.lst (ds.map V.int ++ [.int c])) = H3 at e1 s1 p1
      generalize ds ++ [c] = ds1 at e1 r1 l1
      walk_at "rds"
      refine ⟨.inl ⟨rfl, _, sq e1⟩, ?_⟩
      walk_at "rds"
      refine ⟨_, _, _, rfl, rfl, e1, by rw [List.length_map]; exact sz1000' (by omega), ?_⟩
      have e2 : upd H3 D (.lst (ds1.map V.int ++ [.int ((m0 % 2147483399 * 16807 + c / 7 + 5) % 2147483647 / 5)])) D = some (.lst ((ds1 ++ [((m0 % 2147483399 * 16807 + c / 7 + 5) % 2147483647 / 5)]).map V.int)) := lst_app
      have s2 : Same H (upd H3 D (.lst (ds1.map V.int ++ [.int ((m0 % 2147483399 * 16807 + c / 7 + 5) % 2147483647 / 5)]))) := same_mut s1 hD
      have p2 : (upd H3 D (.lst (ds1.map V.int ++ [.int ((m0 % 2147483399 * 16807 + c / 7 + 5) % 2147483647 / 5)]))) p = some (.lst (cs.map V.int)) := by rw [upd_ne hpD]; exact p1
      have r2 := rng_app2 (x := ((m0 % 2147483399 * 16807 + c / 7 + 5) % 2147483647 / 5)) r1 (by omega) (by omega)
      have l2 : (ds1 ++ [((m0 % 2147483399 * 16807 + c / 7 + 5) % 2147483647 / 5)]).length ≤ 24 * i + 2 := by rw [List.length_append, List.length_singleton]; omega
      generalize ds1 ++ [((m0 % 2147483399 * 16807 + c / 7 + 5) % 2147483647 / 5)] = ds2 at e2 r2 l2
      walk_at "rds"
      refine ⟨.inl ⟨rfl, _, sq e2⟩, ?_⟩
      walk_at "rds"
      refine ⟨_, _, _, rfl, rfl, e2, by rw [List.length_map]; exact sz1000' (by omega), ?_⟩
      refine ⟨_, _, _, _, ds2 ++ [_], rfl, same_mut s2 hD, by rw [upd_ne hpD]; exact p2, lst_app, rng_app2 r2 (by omega) (by omega), ?_⟩
      rw [List.length_append, List.length_singleton]; omega
    · walk_at "rds"
      refine for_it walk_range (Pv := fun j σ H' => ∃ y4 y6 y7 ds c, σ = [some (.ref a), some (.int st), some (.int most), some (.ref D), y4, some (.int c), y6, y7] ∧ Same H H' ∧ H' p = some (.lst (cs.map V.int)) ∧ H' D = some (.lst (ds.map V.int)) ∧ (∀ d ∈ ds, 0 ≤ d ∧ d < 1000000000000000000) ∧ ds.length ≤ 24 * i + j ∧ 0 ≤ c) ⟨_, y6, y7, ds, c, rfl, sm, hpp, hd, hrg, by omega, by omega⟩ (fun _ _ _ _ _ => trivial) (fun j x σ H3 H4 hj hp hy => ?_) (fun σ H3 hp => ?_)
      · obtain ⟨z4, z6, z7, ds, c, rfl, sm, hpp, hd, hrg, hl, hc0⟩ := hp
        obtain ⟨rfl, rfl⟩ := hy
        have hj' : j < 24 := hj
        walk_at "rds"
        refine ite2 (fun e => ?_) (fun e => ?_)
        · walk_at "rds"
          refine ⟨.inl ⟨rfl, _, sq hd⟩, ?_⟩
          walk_at "rds"
          refine ⟨_, _, _, rfl, rfl, hd, by rw [List.length_map]; exact sz1000' (by omega), ?_⟩
          walk_at "rds"
          refine ⟨_, _, _, ds ++ [_], _, rfl, same_mut sm hD, by rw [upd_ne hpD]; exact hpp, lst_app, rng_app2 hrg (by omega) (by omega), ?_, by omega⟩
          rw [List.length_append, List.length_singleton]; omega
        · walk_at "rds"
          exact ⟨_, _, _, ds, _, rfl, sm, hpp, hd, hrg, by omega, by omega⟩
      · obtain ⟨z4, z6, z7, ds, c, rfl, sm, hpp, hd, hrg, hl, hc0⟩ := hp
        exact ⟨_, _, _, _, ds, rfl, sm, hpp, hd, hrg, by have : (24 : Int).toNat = 24 := rfl; omega⟩
  · obtain ⟨y4, y5, y6, y7, ds, rfl, sm, hpp, hd, hrg, hl⟩ := hp'
    walk_at "rds"
    refine ⟨D, _, rfl, sq hd, fun r hr => ?_⟩
    obtain ⟨es, ees, hes, hm⟩ := cutV_most ds most
    rw [ees]
    exact q _ r es (sm.trans (same_upd hr)) (same_none sm hr) upd_same (fun d hd => hrg d (hm d hd)) hes
end

/-! ### is_integer -/
/-- no int, told by its type -/
def NoInt (K : PySem.W.Frag) (H : Hp) (v : V) : Prop := ∃ T, TyX K H v (.type T) ∧ (kitB T "int" = some false ∨ (kitB T "int" = some true ∧ kitB T "bool" = some true))
def spInt (K : PySem.W.Frag) : Sp := fun vs H Q _ => ∃ (v : V) (lo hi : Int), vs = [v, .int lo, .int hi] ∧ ((∃ i, v = .int i ∧ Q (.bl (decide (lo ≤ i ∧ i ≤ hi))) H) ∨ (NoInt K H v ∧ Q (.bl false) H))
section
variable {P : Program} {w : World} {K : PySem.W.Frag} {mg : Str → Option Value} {base : Heap}
theorem c_is_integer {C_Group : Addr} {C_BadGroup : Addr} (T : Txt K mg C_Group C_BadGroup) : Cal P w K mg base 1 "is_integer" (spInt K) [] := by
  refine cal T.d_is_integer sc_is_integer (fun vs H Q E h => ?_) (fun f cdv A outer s H vs Q E hr h => ?_)
  · obtain ⟨v, lo, hi, rfl, _⟩ := h; rfl
  obtain ⟨v, lo, hi, rfl, h⟩ := h
  refine ⟨_, (pss_one (ps_ret (pe_and (pe_callB (kisi (K := K)) (by rfl) T.z_isinstance (by decide +kernel) (pa_cons (pv 0) (pa_cons (pe_bltn (v := .ty "int") (by rfl) T.z_int (by decide +kernel) rfl) pa_nil))) (pe_and (pe_not (pe_callB (kisi (K := K)) (by rfl) T.z_isinstance (by decide +kernel) (pa_cons (pv 0) (pa_cons (pe_bltn (v := .ty "bool") (by rfl) T.z_bool (by decide +kernel) rfl) pa_nil)))) (pe_one (pe_chain op_le op_le (pv 1) (pv 0) (pv 2))))))), ?_⟩
  rcases h with ⟨i, rfl, q⟩ | ⟨⟨T, ty, hk⟩, q⟩
  · walk_at "rds"
    walk_at "isi"
    walk_at "rds"
    walk_at "isi"
    walk_at "rds"
    refine ite2 (fun e => ?_) (fun e => ?_)
    · have e := of_decide_eq_true e
      walk_at "rds"
      have e2 : decide (lo ≤ i ∧ i ≤ hi) = decide (i ≤ hi) := by simp [e]
      rw [e2] at q
      exact q
    · have e : ¬ lo ≤ i := fun z => e (decide_eq_true z)
      have e2 : decide (lo ≤ i ∧ i ≤ hi) = false := by simp [e]
      rw [e2] at q
      exact q
  · walk_at "rds"
    rcases hk with hk | ⟨hk, hb⟩
    · refine ⟨_, .ty _, _, _, false, rfl, .ty _, ty, kit_ty hk, ?_⟩
      walk_at "rds"
      exact q
    · refine ⟨_, .ty _, _, _, true, rfl, .ty _, ty, kit_ty hk, ?_⟩
      walk_at "rds"
      refine ⟨_, .ty _, _, _, true, rfl, .ty _, ty, kit_ty hb, ?_⟩
      walk_at "rds"
      exact q
end

/-! ### the group -/
def gF (n : Int) : List (Str × V) := putF "blocking" (.int (n + 1)) (putF "quorum" (.int (2 * n + 1)) (putF "machines" (.int (3 * n + 1)) (putF "faults" (.int n) [])))
theorem gF_f (n : Int) : (gF n).lookup ("faults" : Str) = some (V.int n) := by rfl
theorem gF_m (n : Int) : (gF n).lookup ("machines" : Str) = some (V.int (3 * n + 1)) := by rfl
theorem gF_q (n : Int) : (gF n).lookup ("quorum" : Str) = some (V.int (2 * n + 1)) := by rfl
theorem gF_b (n : Int) : (gF n).lookup ("blocking" : Str) = some (V.int (n + 1)) := by rfl
/-- a Group stands at p -/
def GrAt (C : Addr) (H : Hp) (p : Addr) (n : Int) : Prop := ∃ dx, H p = some (.ins C dx (gF n))
/-- v is no int from 0 to m -/
def Bad (K : PySem.W.Frag) (H : Hp) (m : Int) (v : V) : Prop := NoInt K H v ∨ ∃ i, v = .int i ∧ ¬ (0 ≤ i ∧ i ≤ m)
def spGInit (K : PySem.W.Frag) (C B : Addr) : Sp := fun vs H Q E => ∃ (p dx : Addr) (v : V), vs = [.ref p, v] ∧ H p = some (.ins C dx []) ∧
  ((∃ n, v = .int n ∧ 0 ≤ n ∧ n ≤ 10 ∧ ∀ (H' : Hp), (∀ b o, H b = some o → b ≠ p → H' b = some o) → GrAt C H' p n → Q .non H') ∨ (Bad K H 10 v ∧ E (.ref B) none H))
section
variable {P : Program} {w : World} {K : PySem.W.Frag} {mg : Str → Option Value} {base : Heap}
theorem k_Group {C_Group : Addr} {C_BadGroup : Addr} (T : Txt K mg C_Group C_BadGroup) : MakX P w K mg base 2 "Group" C_Group (spGInit K C_Group C_BadGroup) := by
  have c_is_integer := c_is_integer (P := P) (w := w) (base := base) T
  refine makX T.g_Group T.mk_Group sc_Group____init__ (fun vs H Q E h => ?_) (fun f cdv A outer s H vs Q E hr h => ?_)
  · obtain ⟨p, dx, v, rfl, _⟩ := h; rfl
  obtain ⟨p, dx, v, rfl, hp, h⟩ := h
  refine ⟨_, (pss_cons (ps_if (pt_not (pt_val (pe_c c_is_integer hr (by decide) (by rfl) (pa_cons (pv 1) (pa_cons pe_int (pa_cons (pe_gc (by rfl) T.c_MOST_FAULTS) pa_nil)))))) (pss_one (ps_raise rfl (takes_of rfl rfl rfl rfl) (pmk_ok T.x_BadGroup (by rfl)))) pss_nil)
      (pss_cons (ps_fld (pv 0) (pv 1) rfl)
      (pss_cons (ps_fld (pv 0) (pe_op op_add (pe_op op_mul pe_int (pv 1)) pe_int) rfl)
      (pss_cons (ps_fld (pv 0) (pe_op op_add (pe_op op_mul pe_int (pv 1)) pe_int) rfl)
      (pss_one (ps_fld (pv 0) (pe_op op_add (pv 1) pe_int) rfl)))))), ?_⟩
  walk_at "rds"
  rcases h with ⟨n, rfl, h0, h1, q⟩ | ⟨hb, q⟩
  · refine ⟨.int n, 0, 10, rfl, .inl ⟨n, rfl, ?_⟩⟩
    refine ⟨_, rfl, ?_⟩
    refine ifF (by simp [h0, h1]) ?_
    walk_at "rds"
    refine ⟨p, _, dx, _, rfl, hp, T.cl_Group, T.na_Group_faults, by decide, ?_⟩
    walk_at "rds"
    refine ⟨p, _, dx, _, rfl, upd_same, T.cl_Group, T.na_Group_machines, (by show 1 < 1000; decide), ?_⟩
    walk_at "rds"
    refine ⟨p, _, dx, _, rfl, upd_same, T.cl_Group, T.na_Group_quorum, (by show 2 < 1000; decide), ?_⟩
    walk_at "rds"
    refine ⟨p, _, dx, _, rfl, upd_same, T.cl_Group, T.na_Group_blocking, (by show 3 < 1000; decide), ?_⟩
    exact q _ (fun b o e hb => by rw [upd_ne hb, upd_ne hb, upd_ne hb, upd_ne hb]; exact e) ⟨dx, upd_same⟩
  · rcases hb with hb | ⟨i, rfl, hb⟩
    · refine ⟨v, 0, 10, rfl, .inr ⟨hb, ?_⟩⟩
      refine ⟨_, rfl, ?_⟩
      refine ifT rfl ?_
      exact q
    · refine ⟨.int i, 0, 10, rfl, .inl ⟨i, rfl, ?_⟩⟩
      refine ⟨_, rfl, ?_⟩
      refine ifT (by rw [decide_eq_false hb]; rfl) ?_
      exact q
end

def spMembers (C : Addr) : Sp := fun vs H Q _ => ∃ (p : Addr) (n : Int), vs = [.ref p] ∧ GrAt C H p n ∧ 0 ≤ n ∧ n ≤ 10 ∧ ∀ q, H q = none → Q (.ref q) (upd H q (.lst (rgV 0 (3 * n + 1))))
section
variable {P : Program} {w : World} {K : PySem.W.Frag} {mg : Str → Option Value} {base : Heap}
theorem m_Group__members {C_Group : Addr} {C_BadGroup : Addr} (T : Txt K mg C_Group C_BadGroup) : Met P w K mg base 1 C_Group "members" (spMembers C_Group) [] := by
  refine met T.cl_Group T.me_Group__members sc_Group__members (fun vs H Q E h => ?_) (fun f cdv A outer s H vs Q E hr h => ?_)
  · obtain ⟨p, n, rfl, _⟩ := h; rfl
  obtain ⟨p, n, rfl, ⟨dx, g⟩, h0, h1, q⟩ := h
  refine ⟨_, (pss_one (ps_ret (pe_listRg (by rfl) (by rfl) T.z_list (prg_1 (by rfl) T.z_range (pe_fld (pv 0) rfl))))), ?_⟩
  walk_at "rds"
  refine ⟨p, _, dx, _, _, rfl, g, T.cl_Group, T.na_Group_machines, gF_m n, ?_⟩
  refine ⟨_, rfl, RgOk.of_le (by decide) (by omega) (by decide) (by omega), fun l hl => q l hl⟩
end

/-! ### slices and sums of tuples, as data -/
def cutD (ds : List PyData) (lo hi : Option Int) : List PyData := (ds.drop (HT.sIx ds.length 0 lo)).take (HT.sIx ds.length ds.length hi - HT.sIx ds.length 0 lo)
theorem DtAll.drop {K : PySem.W.Frag} {H : Hp} {A : Option Addr} : ∀ {xs : List V} {ds : List PyData} (n : Nat), DtAll K H A xs ds → DtAll K H A (xs.drop n) (ds.drop n)
  | _, _, 0, h => h
  | _, _, _ + 1, .nil => .nil
  | _, _, n + 1, .cons _ r => r.drop n
theorem DtAll.take {K : PySem.W.Frag} {H : Hp} {A : Option Addr} : ∀ {xs : List V} {ds : List PyData} (n : Nat), DtAll K H A xs ds → DtAll K H A (xs.take n) (ds.take n)
  | _, _, 0, _ => by rw [List.take_zero, List.take_zero]; exact .nil
  | _, _, _ + 1, .nil => .nil
  | _, _, n + 1, .cons h r => .cons h (r.take n)
theorem DtAll.app {K : PySem.W.Frag} {H : Hp} {A : Option Addr} : ∀ {xs ys : List V} {ds es : List PyData}, DtAll K H A xs ds → DtAll K H A ys es → DtAll K H A (xs ++ ys) (ds ++ es)
  | _, _, _, _, .nil, h => h
  | _, _, _, _, .cons h r, h2 => .cons h (r.app h2)
theorem sl_dt {K : PySem.W.Frag} {H : Hp} {b : Addr} {xs : List V} {ds : List PyData} {lo hi : Option Int} {Q : VK} (ha : TupAt K H b xs) (hx : DtAll K H none xs ds) (q : ∀ H' v, Same H H' → Dt K H' none v (.tuple (cutD ds lo hi)) → Q v H') : rSlA K (.ref b) lo hi H Q := by
  have hl := hx.length
  refine ⟨b, xs, rfl, ha.sq, fun hw => q _ _ (Same.refl H) ?_, fun _ p hp => q _ _ (same_upd hp) (.tup (.inl upd_same) ?_)⟩
  · have e : cutD ds lo hi = ds := by
      unfold cutD
      rw [← hl, hw.1, hw.2, List.drop_zero, Nat.sub_zero, hl, List.take_of_length_le (Nat.le_refl _)]
    rw [e]
    exact .tup ha hx
  · unfold cutV cutD
    rw [← hl]
    exact ((hx.drop _).take _).on (same_upd hp)
theorem cat_dt {K : PySem.W.Frag} {H : Hp} {v u : V} {ds es : List PyData} {Q : VK} (hv : Dt K H none v (.tuple ds)) (hu : Dt K H none u (.tuple es)) (hl : ds.length + es.length ≤ 100000) (q : ∀ H' v', Same H H' → Dt K H' none v' (.tuple (ds ++ es)) → Q v' H') : rCatA K v u H Q := by
  cases hv with
  | tup ha hx =>
    cases hu with
    | tup hb hy =>
      rename_i a xs b ys
      have l1 := hx.length
      have l2 := hy.length
      refine ⟨a, b, xs, ys, rfl, rfl, ha.sq, hb.sq, sz1000 (by omega), fun e => q _ _ (Same.refl H) ?_, fun _ e => q _ _ (Same.refl H) ?_, fun _ _ p hp => q _ _ (same_upd hp) (.tup (.inl upd_same) ((hx.app hy).on (same_upd hp)))⟩
      · rw [e] at l1
        rw [List.length_eq_zero_iff.mp l1.symm]
        exact .tup hb hy
      · rw [e] at l2
        rw [List.length_eq_zero_iff.mp l2.symm, List.append_nil]
        exact .tup ha hx
theorem cutD_take (ds : List PyData) (j : Nat) : cutD ds none (some (j : Int)) = ds.take j := by
  unfold cutD
  rw [HT.sIx_nat, HT.sIx_none, List.drop_zero, Nat.sub_zero]
  rcases Nat.le_total j ds.length with h | h
  · rw [Nat.min_eq_left h]
  · rw [Nat.min_eq_right h, List.take_of_length_le (Nat.le_refl _), List.take_of_length_le h]
theorem cutD_drop (ds : List PyData) (j : Nat) : cutD ds (some (j : Int)) none = ds.drop j := by
  unfold cutD
  rw [HT.sIx_nat, HT.sIx_none]
  rcases Nat.le_total j ds.length with h | h
  · rw [Nat.min_eq_left h, List.take_of_length_le (by rw [List.length_drop]; exact Nat.le_refl _)]
  · rw [Nat.min_eq_right h, Nat.sub_self, List.take_zero, List.drop_of_length_le h]

/-! ### data for comparisons: shape and depth -/
def Ly (k : Nat) (d : PyData) : Prop := d.canLay0 = true ∧ d.depth ≤ k
theorem ly_all {k : Nat} : ∀ {ds : List PyData}, (∀ d ∈ ds, Ly k d) → PyData.canLayAll0 ds = true ∧ PyData.depthAll ds ≤ k
  | [], _ => ⟨by simp [PyData.canLayAll0], by simp [PyData.depthAll]⟩
  | d :: r, h => by
    obtain ⟨i1, i2⟩ := ly_all fun z hz => h z (List.mem_cons_of_mem _ hz)
    obtain ⟨l1, l2⟩ := h d List.mem_cons_self
    constructor
    · rw [PyData.canLayAll0, i1, l1]; rfl
    · rw [PyData.depthAll]; omega
theorem ly_tup {k : Nat} {ds : List PyData} (h : ∀ d ∈ ds, Ly k d) : Ly (k + 1) (.tuple ds) := by
  obtain ⟨a, b⟩ := ly_all h
  exact ⟨by rw [PyData.canLay0]; exact a, by rw [PyData.depth]; omega⟩
theorem ly_lst {k : Nat} {ds : List PyData} (h : ∀ d ∈ ds, Ly k d) : Ly (k + 1) (.list ds) := by
  obtain ⟨a, b⟩ := ly_all h
  exact ⟨by rw [PyData.canLay0]; exact a, by rw [PyData.depth]; omega⟩
theorem ly_int {k : Nat} (i : Int) : Ly k (.int i) := ⟨by simp [PyData.canLay0], by simp [PyData.depth]⟩
theorem ly_non {k : Nat} : Ly k .none := ⟨by simp [PyData.canLay0], by simp [PyData.depth]⟩
theorem ly_bl {k : Nat} (b : Bool) : Ly k (.bool b) := ⟨by simp [PyData.canLay0], by simp [PyData.depth]⟩
theorem ly_str {k : Nat} {z : Str} (h : PyData.strOk z = true) : Ly k (.str z) := ⟨by simp [PyData.canLay0, h], by simp [PyData.depth]⟩
theorem Ly.mono {k j : Nat} {d : PyData} (h : Ly k d) (le : k ≤ j) : Ly j d := ⟨h.1, Nat.le_trans h.2 le⟩
theorem ly_nil {k : Nat} : ∀ d ∈ ([] : List PyData), Ly k d := fun _ m => nomatch m
theorem ly_cons {k : Nat} {d : PyData} {r : List PyData} (h : Ly k d) (hr : ∀ d ∈ r, Ly k d) : ∀ e ∈ d :: r, Ly k e := fun e m => by
  rcases List.mem_cons.mp m with rfl | m
  · exact h
  · exact hr e m
theorem ly_app {k : Nat} {r s : List PyData} (hr : ∀ d ∈ r, Ly k d) (hs : ∀ d ∈ s, Ly k d) : ∀ e ∈ r ++ s, Ly k e := fun e m => by
  rcases List.mem_append.mp m with m | m
  · exact hr e m
  · exact hs e m
theorem shpL {d : PyData} (h : Ly 20 d) : SeqAt.shaped d = true ∧ PyData.eqv d d = true := by
  refine ⟨?_, SeqAt.eqv_refl _ h.1⟩
  unfold SeqAt.shaped
  rw [h.1, decide_eq_true (by have := h.2; omega)]; rfl

/-! ### comprehensions over a list or a range, as data -/
section
variable {K : PySem.W.Frag}
theorem filterMap_take {α β : Type} (F : α → Option β) (ds : List α) {i : Nat} {d : α} (h : ds[i]? = some d) : (ds.take (i + 1)).filterMap F = (ds.take i).filterMap F ++ (F d).toList := by
  rw [List.take_add_one, h, List.filterMap_append]
  congr 1
theorem noLs_app {xs ys : List PyData} (h1 : noLs xs = true) (h2 : noLs ys = true) : noLs (xs ++ ys) = true := noLs_all fun d hd => by
  rcases List.mem_append.mp hd with h | h
  · exact noLs_mem' h1 h
  · exact noLs_mem' h2 h
where noLs_mem' : ∀ {ds : List PyData} {d : PyData}, noLs ds = true → d ∈ ds → noL d = true
  | e :: r, d, h, m => by
    have h : (noL e && noLs r) = true := h
    rw [Bool.and_eq_true] at h
    rcases List.mem_cons.mp m with rfl | m
    · exact h.1
    · exact noLs_mem' h.2 m
/-- over a walk whose items are told by P -/
theorem lc_walk {α : Type} {J : It} {n : Nat} {G : Hp → Prop} {Y : Nat → Hp → V → Hp → Prop} (w : Walk J n G Y) {g : TG} {tt : TT} {te : TE} {vs : List Nat} {σ : L2.St} {H1 : Hp} {D : Addr} {Qd : Hp → Prop} (hD : H1 D = none) (ds : List α) (hl : ds.length = n) (hn : n ≤ 100000) (F : α → Option PyData)
    (hF : ∀ d e, d ∈ ds → F d = some e → noL e = true)
    (hG : ∀ H', Same H1 H' → G H') (hY : ∀ i H x H', Y i H x H' → H' = H)
    (hs : ∀ i x d H7, i < n → ds[i]? = some d → Same H1 H7 → Y i H7 x H7 → ∀ (R : V → Hp → Prop) (R0 : Hp → Prop), (∀ e, F d = some e → ∀ y H8, Same H7 H8 → Dt K H8 none y e → R y H8) → (F d = none → ∀ H8, Same H7 H8 → R0 H8) →
      g x (wipe σ vs) H7 fun σ2 H2 => wipe σ2 vs = wipe σ vs ∧ tt σ2 H2 fun b H3 => if b = true then te σ2 H3 R else R0 H3)
    (hd : ∀ H' xs', Same H1 H' → H' D = some (.lst xs') → DtAll K H' none xs' (ds.filterMap F) → Qd H') :
    ∃ W : Nat → Nat → Hp → Prop, (∃ m, W 0 m (upd H1 D (.lst []))) ∧ ∀ i m H, W i m H →
      (J.stop i H ∧ Qd H) ∨ (J.go i H ∧ ∃ Nx : Hp → Prop, (∀ H', Nx H' → ∃ m', m' < m ∧ W (i + 1) m' H') ∧ ∀ x H', J.yld i H x H' → g x (wipe σ vs) H' fun σ2 H2 => wipe σ2 vs = wipe σ vs ∧ tt σ2 H2 fun b H3 =>
        if b = true then te σ2 H3 fun y H4 => ∃ acc, H4 D = some (.lst acc) ∧ acc.length < sizeLine ∧ Nx (upd H4 D (.lst (acc ++ [y]))) else Nx H3) := by
  refine lc_it w (Pv := fun i H' => ∃ xs', Same H1 H' ∧ H' D = some (.lst xs') ∧ DtAll K H' none xs' ((ds.take i).filterMap F)) ⟨[], same_upd hD, upd_same, .nil⟩ (fun i H _ h => by obtain ⟨_, h, _⟩ := h; exact hG _ h) (fun i x H6 H7 hi hp hy => ?_) (fun H6 hp => ?_)
  · obtain ⟨xs', s6, hD6, hx6⟩ := hp
    obtain rfl := hY i H6 x H7 hy
    obtain ⟨d, gd⟩ : ∃ d, ds[i]? = some d := ⟨_, List.getElem?_eq_getElem (by omega)⟩
    have hx7 := filterMap_take F ds gd
    have hnl : noLs ((ds.take i).filterMap F) = true := noLs_all fun e he => by
      obtain ⟨d', hd', e'⟩ := List.mem_filterMap.mp he
      exact hF d' e (List.mem_of_mem_take hd') e'
    have hll : xs'.length ≤ i := by
      rw [hx6.length]
      have := List.length_filterMap_le F (ds.take i)
      rw [List.length_take] at this
      omega
    refine hs i x d H7 hi gd s6 hy _ _ (fun e he y H8 s8 hdy => ?_) (fun he H8 s8 => ?_)
    · have hD8 := s8 _ _ hD6
      refine ⟨xs', hD8, sz1000' (by omega), xs' ++ [y], same_mut (s6.trans s8) hD, upd_same, ?_⟩
      rw [hx7, he]
      have hne := hF d e (List.mem_of_getElem? gd) he
      exact DtAll.keep (A := none) (tp_put hD8) _ _ (noLs_app hnl (by show (noL e && true) = true; rw [hne]; rfl)) ((hx6.on s8).snoc hdy)
    · refine ⟨xs', s6.trans s8, s8 _ _ hD6, ?_⟩
      rw [hx7, he]
      show DtAll K H8 none xs' (_ ++ [])
      rw [List.append_nil]
      exact hx6.on s8
  · obtain ⟨xs', s6, hD6, hx6⟩ := hp
    rw [List.take_of_length_le (by omega)] at hx6
    exact hd _ _ s6 hD6 hx6
/-- over a list of data -/
theorem lc_list_dt {g : TG} {tt : TT} {te : TE} {vs : List Nat} {σ : L2.St} {H1 : Hp} {D a : Addr} {xs : List V} {ds : List PyData} {Qd : Hp → Prop} (hD : H1 D = none) (hq : SqL K H1 a xs) (hx : DtAll K H1 none xs ds) (hn : xs.length ≤ 100000) (F : PyData → Option PyData)
    (hF : ∀ d e, d ∈ ds → F d = some e → noL e = true)
    (hs : ∀ x d H7, d ∈ ds → Same H1 H7 → Dt K H7 none x d → ∀ (R : V → Hp → Prop) (R0 : Hp → Prop), (∀ e, F d = some e → ∀ y H8, Same H7 H8 → Dt K H8 none y e → R y H8) → (F d = none → ∀ H8, Same H7 H8 → R0 H8) →
      g x (wipe σ vs) H7 fun σ2 H2 => wipe σ2 vs = wipe σ vs ∧ tt σ2 H2 fun b H3 => if b = true then te σ2 H3 R else R0 H3)
    (hd : ∀ H' xs', Same H1 H' → H' D = some (.lst xs') → DtAll K H' none xs' (ds.filterMap F) → Qd H') :
    ∃ W : Nat → Nat → Hp → Prop, (∃ m, W 0 m (upd H1 D (.lst []))) ∧ ∀ i m H, W i m H →
      ((Itl K a).stop i H ∧ Qd H) ∨ ((Itl K a).go i H ∧ ∃ Nx : Hp → Prop, (∀ H', Nx H' → ∃ m', m' < m ∧ W (i + 1) m' H') ∧ ∀ x H', (Itl K a).yld i H x H' → g x (wipe σ vs) H' fun σ2 H2 => wipe σ2 vs = wipe σ vs ∧ tt σ2 H2 fun b H3 =>
        if b = true then te σ2 H3 fun y H4 => ∃ acc, H4 D = some (.lst acc) ∧ acc.length < sizeLine ∧ Nx (upd H4 D (.lst (acc ++ [y]))) else Nx H3) :=
  lc_walk (K := K) walk_list hD ds hx.length.symm hn F hF (fun _ s => s.seq hq) (fun _ _ _ _ y => y.1) (fun i x d H7 hi gd s7 hy R R0 => hs x d H7 (List.mem_of_getElem? gd) s7 (by
    obtain ⟨d', g', hd'⟩ := hx.get hy.2
    rw [gd] at g'
    cases g'
    exact hd'.on s7) R R0) hd
/-- over a range -/
theorem lc_range_dt {g : TG} {tt : TT} {te : TE} {vs : List Nat} {σ : L2.St} {H1 : Hp} {D : Addr} {lo : Int} {n : Nat} {Qd : Hp → Prop} (hD : H1 D = none) (hn : n ≤ 100000) (F : Nat → Option PyData)
    (hF : ∀ d e, d < n → F d = some e → noL e = true)
    (hs : ∀ i H7, i < n → Same H1 H7 → ∀ (R : V → Hp → Prop) (R0 : Hp → Prop), (∀ e, F i = some e → ∀ y H8, Same H7 H8 → Dt K H8 none y e → R y H8) → (F i = none → ∀ H8, Same H7 H8 → R0 H8) →
      g (.int (lo + i)) (wipe σ vs) H7 fun σ2 H2 => wipe σ2 vs = wipe σ vs ∧ tt σ2 H2 fun b H3 => if b = true then te σ2 H3 R else R0 H3)
    (hd : ∀ H' xs', Same H1 H' → H' D = some (.lst xs') → DtAll K H' none xs' ((List.range n).filterMap F) → Qd H') :
    ∃ W : Nat → Nat → Hp → Prop, (∃ m, W 0 m (upd H1 D (.lst []))) ∧ ∀ i m H, W i m H →
      ((Itr lo n).stop i H ∧ Qd H) ∨ ((Itr lo n).go i H ∧ ∃ Nx : Hp → Prop, (∀ H', Nx H' → ∃ m', m' < m ∧ W (i + 1) m' H') ∧ ∀ x H', (Itr lo n).yld i H x H' → g x (wipe σ vs) H' fun σ2 H2 => wipe σ2 vs = wipe σ vs ∧ tt σ2 H2 fun b H3 =>
        if b = true then te σ2 H3 fun y H4 => ∃ acc, H4 D = some (.lst acc) ∧ acc.length < sizeLine ∧ Nx (upd H4 D (.lst (acc ++ [y]))) else Nx H3) :=
  lc_walk (K := K) walk_range hD (List.range n) List.length_range hn F (fun d e hd he => hF d e (List.mem_range.mp hd) he) (fun _ _ => trivial) (fun _ _ _ _ y => y.1) (fun i x d H7 hi gd s7 hy R R0 h1 h2 => by
    obtain ⟨_, rfl⟩ := hy
    rw [List.getElem?_range hi] at gd
    cases gd
    exact hs i H7 hi s7 R R0 h1 h2) hd
end

/-! ### the outbox -/
def sendD (r : Int) (l : PyData) : PyData := .tuple [.int r, l]
def othersD (M : Nat) (me : Int) (l : PyData) : List PyData := (List.range M).filterMap fun (i : Nat) => if (i : Int) = me then none else some (sendD i l)
def spOthers (K : PySem.W.Frag) (C : Addr) : Sp := fun vs H Q _ => ∃ (g : Addr) (f : Nat) (me : Int) (v : V) (d : PyData), vs = [.ref g, .int me, v] ∧ GrAt C H g f ∧ f ≤ 10 ∧ Dt K H none v d ∧ noL d = true ∧
  ∀ H' r xs, Same H H' → H r = none → H' r = some (.lst xs) → DtAll K H' none xs (othersD (3 * f + 1) me d) → Q (.ref r) H'
def intsD (n : Nat) : List PyData := (List.range n).map fun (i : Nat) => PyData.int (i : Int)
theorem rgV_dt {K : PySem.W.Frag} {H : Hp} {A : Option Addr} {n : Nat} {m : Int} (h : m = n) : DtAll K H A (rgV 0 m) (intsD n) := by
  unfold rgV intsD
  have e : (m - 0).toNat = n := by omega
  rw [e]
  have : ∀ l : List Nat, DtAll K H A (l.map fun (i : Nat) => V.int (0 + (i : Int))) (l.map fun (i : Nat) => PyData.int (i : Int)) := fun l => by
    induction l with
    | nil => exact .nil
    | cons a r ih => exact .cons (by show Dt K H A (V.int (0 + (a : Int))) (.int (a : Int)); rw [Int.zero_add]; exact .int _) ih
  exact this _
def othF (me : Int) (l : PyData) : PyData → Option PyData
  | .int r => if r = me then none else some (sendD r l)
  | _ => none
theorem othF_all {me : Int} {l : PyData} (n : Nat) : (intsD n).filterMap (othF me l) = othersD n me l := by
  unfold intsD othersD
  rw [List.filterMap_map]; rfl
section
variable {P : Program} {w : World} {K : PySem.W.Frag} {mg : Str → Option Value} {base : Heap}
theorem c_to_others {C_Group : Addr} {C_BadGroup : Addr} (T : Txt K mg C_Group C_BadGroup) : Cal P w K mg base 2 "to_others" (spOthers K C_Group) [] := by
  have m_Group__members := m_Group__members (P := P) (w := w) (base := base) T
  refine cal T.d_to_others sc_to_others (fun vs H Q E h => ?_) (fun f cdv A outer s H vs Q E hr h => ?_)
  · obtain ⟨g, f, me, v, d, rfl, _⟩ := h; rfl
  obtain ⟨g, n, me, v, d, rfl, gr, hn, hd, nl, q⟩ := h
  obtain ⟨dx, hg⟩ := id gr
  refine ⟨_, (pss_one (ps_ret (pe_lc (own := [("receiver", 3)]) (g := gName 3) (by rfl) sc_to_others.nd (pi_list (pe_mt0 m_Group__members hr (by decide) (pv 0))) (blkOk_by (own := [("receiver", 3)]) (N := ["group", "me", "letter", "receiver"]) (sc := defScope s_to_others) (by decide +kernel)) (fun _ _ _ _ _ => pg_name (i := 3) sc_to_others.nd rfl (Or.inl rfl)) (fun _ _ _ _ _ => pts_one (pt_cmpR op_ne (pv 3) (pv 1) (nomark _))) (fun _ _ _ _ _ => (pe_tup (pa_cons (pv 3) (pa_cons (pv 2) pa_nil))))))), ?_⟩
  walk_at "rds"
  refine ⟨g, dx, _, rfl, hg, rfl, ?_⟩
  walk_at "rds"
  refine ⟨g, n, rfl, gr, by omega, by omega, fun l hl => ?_⟩
  have s1 := same_upd (o := .lst (rgV 0 (3 * (n : Int) + 1))) hl
  have hl1 : upd H l (.lst (rgV 0 (3 * (n : Int) + 1))) l = some (.lst (rgV 0 (3 * (n : Int) + 1))) := upd_same
  generalize upd H l (.lst (rgV 0 (3 * (n : Int) + 1))) = H1 at s1 hl1
  have hd1 := hd.on s1
  walk_at "rds"
  refine ⟨⟨_, sq hl1⟩, fun D hD => ?_⟩
  refine lc_list_dt (K := K) hD (sq hl1) (rgV_dt (n := 3 * n + 1) (by omega)) (by rw [rgV_length]; omega) (othF me d) (fun x e hx he => ?_) (fun x d' H7 hx s7 hdx R R0 hR hR0 => ?_) (fun H' xs' s' e' hx' => ?_)
  · obtain ⟨i, _, rfl⟩ := List.mem_map.mp hx
    have he : (if (i : Int) = me then none else some (sendD i d)) = some e := he
    by_cases h : (i : Int) = me
    · rw [if_pos h] at he; cases he
    · rw [if_neg h] at he; cases he
      show (true && (noL d && true)) = true
      rw [nl]; rfl
  · obtain ⟨i, _, rfl⟩ := List.mem_map.mp hx
    cases hdx
    refine ⟨rfl, ?_⟩
    walk_at "rds"
    by_cases h : (i : Int) = me
    · have e : othF me d (.int (i : Int)) = none := if_pos h
      refine ifF (by show (!decide (V.int (i : Int) = V.int me)) = false; rw [decide_eq_true (by rw [h])]; rfl) ?_
      exact hR0 e _ (Same.refl _)
    · have e : othF me d (.int (i : Int)) = some (sendD i d) := if_neg h
      refine ifT (by show (!decide (V.int (i : Int) = V.int me)) = true; rw [decide_eq_false (fun z => h (V.int.inj z))]; rfl) ?_
      walk_at "rds"
      intro t ht
      exact hR _ e _ _ (same_upd ht) (.tup (.inl upd_same) (.cons (.int _) (.cons ((hd1.on s7).on (same_upd ht)) .nil)))
  · rw [othF_all] at hx'
    exact q _ _ _ (s1.trans s') (same_none s1 hD) e' hx'
def tagD (z : Str) (d : PyData) : PyData := .tuple [.str z, d]
def allD (M : Nat) (me : Int) (ls : List PyData) : List PyData := ls.flatMap (othersD M me)
def lettersD (ds1 ds2 ds3 : List PyData) (h : Int) : List PyData := ds1.map (tagD "vouch") ++ ds2.map (tagD "vote") ++ ds3.map (tagD "ready") ++ [tagD "claim" (.int h)]
theorem tag_noLs {z : Str} {ds : List PyData} (h : noLs ds = true) : noLs (ds.map (tagD z)) = true := noLs_all fun d hd => by
  obtain ⟨e, he, rfl⟩ := List.mem_map.mp hd
  show (true && (noL e && true)) = true
  rw [noLs_app.noLs_mem' h he]; rfl
theorem othersD_len (M : Nat) (me : Int) (l : PyData) : (othersD M me l).length ≤ M := by
  unfold othersD
  have := List.length_filterMap_le (fun (i : Nat) => if (i : Int) = me then none else some (sendD i l)) (List.range M)
  rw [List.length_range] at this
  exact this
theorem othersD_noLs {M : Nat} {me : Int} {l : PyData} (h : noL l = true) : noLs (othersD M me l) = true := noLs_all fun d hd => by
  unfold othersD at hd
  obtain ⟨i, _, hi⟩ := List.mem_filterMap.mp hd
  by_cases e : (i : Int) = me
  · rw [if_pos e] at hi; cases hi
  · rw [if_neg e] at hi; cases hi
    show (true && (noL l && true)) = true
    rw [h]; rfl
theorem allD_len {M : Nat} {me : Int} : ∀ {ls : List PyData}, (allD M me ls).length ≤ M * ls.length
  | [] => Nat.zero_le _
  | l :: r => by
    have := othersD_len M me l
    have := allD_len (M := M) (me := me) (ls := r)
    unfold allD at this ⊢
    rw [List.flatMap_cons, List.length_append, List.length_cons, Nat.mul_add]
    omega
theorem allD_noLs {M : Nat} {me : Int} {ls : List PyData} (h : noLs ls = true) : noLs (allD M me ls) = true := noLs_all fun d hd => by
  obtain ⟨l, hl, hd⟩ := List.mem_flatMap.mp hd
  exact noLs_app.noLs_mem' (othersD_noLs (noLs_app.noLs_mem' h hl)) hd
theorem allD_take {M : Nat} {me : Int} {ls : List PyData} {i : Nat} {d : PyData} (g : ls[i]? = some d) : allD M me (ls.take (i + 1)) = allD M me (ls.take i) ++ othersD M me d := by
  unfold allD
  rw [List.take_add_one, g, List.flatMap_append]
  congr 1
  show [d].flatMap _ = _
  rw [List.flatMap_cons, List.flatMap_nil, List.append_nil]
/-- a list of data without lists in it -/
structure LD (K : PySem.W.Frag) (H : Hp) (a : Addr) (ds : List PyData) (n : Nat) : Prop where
  ex : ∃ xs, H a = some (.lst xs) ∧ DtAll K H none xs ds
  nl : noLs ds = true
  ln : ds.length ≤ n
theorem LD.on {H H' : Hp} {a : Addr} {ds : List PyData} {n : Nat} (h : LD K H a ds n) (s : Same H H') : LD K H' a ds n :=
  { h with ex := by obtain ⟨xs, e, d⟩ := h.ex; exact ⟨xs, s _ _ e, d.on s⟩ }
def spRepeats (K : PySem.W.Frag) (C : Addr) : Sp := fun vs H Q _ => ∃ (g : Addr) (f : Nat) (me : Int) (a1 a2 a3 : Addr) (ds1 ds2 ds3 : List PyData) (h : Int), vs = [.ref g, .int me, .ref a1, .ref a2, .ref a3, .int h] ∧ GrAt C H g f ∧ f ≤ 10 ∧ LD K H a1 ds1 100 ∧ LD K H a2 ds2 100 ∧ LD K H a3 ds3 100 ∧
  ∀ H' r xs, Same H H' → H r = none → H' r = some (.lst xs) → DtAll K H' none xs (allD (3 * f + 1) me (lettersD ds1 ds2 ds3 h)) → Q (.ref r) H'
theorem filterMap_some {α β : Type} (f : α → β) (l : List α) : l.filterMap (fun x => some (f x)) = l.map f := by
  induction l with
  | nil => rfl
  | cons a r ih => rw [List.filterMap_cons, List.map_cons, ih]
/-- the element ('tag', x) of a comprehension -/
theorem tag_noL {z : Str} {d e : PyData} {ds : List PyData} (h : noLs ds = true) (hd : d ∈ ds) (he : some (tagD z d) = some e) : noL e = true := by
  cases he
  show (true && (noL d && true)) = true
  rw [noLs_app.noLs_mem' h hd]; rfl
theorem c_repeats {C_Group : Addr} {C_BadGroup : Addr} (T : Txt K mg C_Group C_BadGroup) : Cal P w K mg base 3 "repeats" (spRepeats K C_Group) [] := by
  have c_to_others := c_to_others (P := P) (w := w) (base := base) T
  refine cal T.d_repeats sc_repeats (fun vs H Q E h => ?_) (fun f cdv A outer s H vs Q E hr h => ?_)
  · obtain ⟨g, f, me, a1, a2, a3, ds1, ds2, ds3, h, rfl, _⟩ := h; rfl
  obtain ⟨g, n, me, a1, a2, a3, ds1, ds2, ds3, h, rfl, gr, hn, l1, l2, l3, q⟩ := h
  unfold lettersD at q
  refine ⟨_, (pss_cons (ps_setLc (i := 6) (own := [("command", 9)]) (g := gName 9) rfl sc_repeats.nd rfl rfl (sw_true rfl rfl rfl (by decide +kernel)) (pi_list (pv 2)) (blkOk_by (own := [("command", 9)]) (N := ["group", "me", "vouches", "votes", "readies", "height", "letters", "sent", "letter", "command", "block"]) (sc := defScope s_repeats) (by decide +kernel)) (fun _ _ _ _ _ => pg_name (i := 9) sc_repeats.nd rfl (Or.inl rfl)) (fun _ _ _ _ _ => pts_nil) (fun _ _ _ _ _ => (pe_tup (pa_cons pe_str (pa_cons (pv 9) pa_nil)))))
      (pss_cons (ps_expr (pe_bm PySem.F.plainAttrs_list PySem.F.slot_list_extend PySem.F.type_list_extend mt_extend (pv 6) (pa_cons (pe_lc (own := [("block", 10)]) (g := gName 10) (by rfl) sc_repeats.nd (pi_list (pv 3)) (blkOk_by (own := [("block", 10)]) (N := ["group", "me", "vouches", "votes", "readies", "height", "letters", "sent", "letter", "command", "block"]) (sc := defScope s_repeats) (by decide +kernel)) (fun _ _ _ _ _ => pg_name (i := 10) sc_repeats.nd rfl (Or.inl rfl)) (fun _ _ _ _ _ => pts_nil) (fun _ _ _ _ _ => (pe_tup (pa_cons pe_str (pa_cons (pv 10) pa_nil))))) pa_nil)))
      (pss_cons (ps_expr (pe_bm PySem.F.plainAttrs_list PySem.F.slot_list_extend PySem.F.type_list_extend mt_extend (pv 6) (pa_cons (pe_lc (own := [("block", 10)]) (g := gName 10) (by rfl) sc_repeats.nd (pi_list (pv 4)) (blkOk_by (own := [("block", 10)]) (N := ["group", "me", "vouches", "votes", "readies", "height", "letters", "sent", "letter", "command", "block"]) (sc := defScope s_repeats) (by decide +kernel)) (fun _ _ _ _ _ => pg_name (i := 10) sc_repeats.nd rfl (Or.inl rfl)) (fun _ _ _ _ _ => pts_nil) (fun _ _ _ _ _ => (pe_tup (pa_cons pe_str (pa_cons (pv 10) pa_nil))))) pa_nil)))
      (pss_cons (ps_expr (pe_bm PySem.F.plainAttrs_list PySem.F.slot_list_append PySem.F.type_list_append mt_append (pv 6) (pa_cons (pe_tup (pa_cons pe_str (pa_cons (pv 5) pa_nil))) pa_nil)))
      (pss_cons (ps_set (i := 7) sc_repeats.nd rfl (Or.inl rfl) (pe_lst pa_nil))
      (pss_cons (ps_for PassesOwn.never rfl (pi_list (pv 6)) (pg_name (i := 8) sc_repeats.nd rfl (Or.inl rfl)) (pss_one (ps_expr (pe_bm PySem.F.plainAttrs_list PySem.F.slot_list_extend PySem.F.type_list_extend mt_extend (pv 7) (pa_cons (pe_c c_to_others hr (by decide) (by rfl) (pa_cons (pv 0) (pa_cons (pv 1) (pa_cons (pv 8) pa_nil)))) pa_nil)))))
      (pss_one (ps_ret (pv 7))))))))), ?_⟩
  walk_at "rds"
  obtain ⟨xs1, e1, hx1⟩ := l1.ex
  refine ⟨⟨_, sq e1⟩, fun D hD => ?_⟩
  refine lc_list_dt (K := K) hD (sq e1) hx1 (by rw [hx1.length]; have := l1.ln; omega) (fun d => some (tagD "vouch" d)) (fun x e hx he => tag_noL l1.nl hx he) (fun x d' H7 hx s7 hdx R R0 hR hR0 => ?_) (fun H1 ys1 s1 g1 hy1 => ?_)
  · refine ⟨rfl, tyes ?_⟩
    walk_at "rds"
    intro t ht
    exact hR _ rfl _ _ (same_upd ht) (.tup (.inl upd_same) (.cons (.str _ (by decide)) (.cons (hdx.on (same_upd ht)) .nil)))
  rw [filterMap_some] at hy1
  have n1 := tag_noLs (z := "vouch") l1.nl
  have k1 := hy1.length
  have b1 : (ds1.map (tagD "vouch")).length ≤ 100 := by rw [List.length_map]; exact l1.ln
  generalize ds1.map (tagD "vouch") = es1 at hy1 n1 k1 b1 q
  walk_at "rds"
  refine ⟨.inl ⟨rfl, _, sq g1⟩, ?_⟩
  walk_at "rds"
  have l2 := l2.on s1
  obtain ⟨xs2, e2, hx2⟩ := l2.ex
  refine ⟨⟨_, sq e2⟩, fun D2 hD2 => ?_⟩
  refine lc_list_dt (K := K) hD2 (sq e2) hx2 (by rw [hx2.length]; have := l2.ln; omega) (fun d => some (tagD "vote" d)) (fun x e hx he => tag_noL l2.nl hx he) (fun x d' H7 hx s7 hdx R R0 hR hR0 => ?_) (fun H2 ys2 s2 g2 hy2 => ?_)
  · refine ⟨rfl, tyes ?_⟩
    walk_at "rds"
    intro t ht
    exact hR _ rfl _ _ (same_upd ht) (.tup (.inl upd_same) (.cons (.str _ (by decide)) (.cons (hdx.on (same_upd ht)) .nil)))
  rw [filterMap_some] at hy2
  have n2 := tag_noLs (z := "vote") l2.nl
  have k2 := hy2.length
  have b2 : (ds2.map (tagD "vote")).length ≤ 100 := by rw [List.length_map]; exact l2.ln
  generalize ds2.map (tagD "vote") = es2 at hy2 n2 k2 b2 q
  have g1 := s2 _ _ g1
  walk_at "rds"
  refine ⟨D, D2, _, _, rfl, rfl, g1, g2, sz1000 (by omega), ?_⟩
  have s3 : Same H (upd H2 D (.lst (ys1 ++ ys2))) := same_mut (s1.trans s2) hD
  have g3 : upd H2 D (.lst (ys1 ++ ys2)) D = some (.lst (ys1 ++ ys2)) := upd_same
  have hy3 : DtAll K (upd H2 D (.lst (ys1 ++ ys2))) none (ys1 ++ ys2) (es1 ++ es2) := DtAll.keep (A := none) (tp_put g1) _ _ (noLs_app n1 n2) ((hy1.on s2).app hy2)
  have n3 := noLs_app n1 n2
  have k3 := hy3.length
  have b3 : (es1 ++ es2).length ≤ 200 := by rw [List.length_append]; omega
  generalize upd H2 D (.lst (ys1 ++ ys2)) = H3 at s3 g3 hy3
  generalize ys1 ++ ys2 = ys3 at g3 hy3 k3
  have q3 : ∀ H' r xs, Same H H' → H r = none → H' r = some (.lst xs) → DtAll K H' none xs (allD (3 * n + 1) me ((es1 ++ es2) ++ ds3.map (tagD "ready") ++ [tagD "claim" (.int h)])) → Q (.ref r) H' := fun H' r xs a b c d => q H' r xs a b c d
  generalize es1 ++ es2 = es3 at hy3 n3 k3 b3 q3
  walk_at "rds"
  refine ⟨.inl ⟨rfl, _, sq g3⟩, ?_⟩
  walk_at "rds"
  have l3 := l3.on s3
  obtain ⟨xs3, e3, hx3⟩ := l3.ex
  refine ⟨⟨_, sq e3⟩, fun D3 hD3 => ?_⟩
  refine lc_list_dt (K := K) hD3 (sq e3) hx3 (by rw [hx3.length]; have := l3.ln; omega) (fun d => some (tagD "ready" d)) (fun x e hx he => tag_noL l3.nl hx he) (fun x d' H7 hx s7 hdx R R0 hR hR0 => ?_) (fun H4 ys4 s4 g4 hy4 => ?_)
  · refine ⟨rfl, tyes ?_⟩
    walk_at "rds"
    intro t ht
    exact hR _ rfl _ _ (same_upd ht) (.tup (.inl upd_same) (.cons (.str _ (by decide)) (.cons (hdx.on (same_upd ht)) .nil)))
  rw [filterMap_some] at hy4
  have n4 := tag_noLs (z := "ready") l3.nl
  have k4 := hy4.length
  have b4 : (ds3.map (tagD "ready")).length ≤ 100 := by rw [List.length_map]; exact l3.ln
  generalize ds3.map (tagD "ready") = es4 at hy4 n4 k4 b4 q3
  have g3 := s4 _ _ g3
  walk_at "rds"
  refine ⟨D, D3, _, _, rfl, rfl, g3, g4, sz1000 (by omega), ?_⟩
  have s5 : Same H (upd H4 D (.lst (ys3 ++ ys4))) := same_mut (s3.trans s4) hD
  have g5 : upd H4 D (.lst (ys3 ++ ys4)) D = some (.lst (ys3 ++ ys4)) := upd_same
  have n5 := noLs_app n3 n4
  have hy5 : DtAll K (upd H4 D (.lst (ys3 ++ ys4))) none (ys3 ++ ys4) (es3 ++ es4) := DtAll.keep (A := none) (tp_put g3) _ _ n5 ((hy3.on s4).app hy4)
  have k5 := hy5.length
  have b5 : (es3 ++ es4).length ≤ 300 := by rw [List.length_append]; omega
  generalize upd H4 D (.lst (ys3 ++ ys4)) = H5 at s5 g5 hy5
  generalize ys3 ++ ys4 = ys5 at g5 hy5 k5
  generalize es3 ++ es4 = es5 at hy5 n5 k5 b5 q3
  walk_at "rds"
  refine ⟨.inl ⟨rfl, _, sq g5⟩, ?_⟩
  walk_at "rds"
  intro t ht
  have g6 := (same_upd (o := .tup [.str "claim", .int h]) ht) _ _ g5
  refine ⟨D, _, _, rfl, rfl, g6, sz1000' (by omega), ?_⟩
  have hcl : Dt K (upd H5 t (.tup [.str "claim", .int h])) none (.ref t) (tagD "claim" (.int h)) := .tup (.inl upd_same) (.cons (.str _ (by decide)) (.cons (.int _) .nil))
  have n7 : noLs (es5 ++ [tagD "claim" (.int h)]) = true := noLs_app n5 rfl
  have hy7 := DtAll.keep (A := none) (B := none) (tp_put (ys := ys5 ++ [.ref t]) g6) _ _ n7 ((hy5.on (same_upd ht)).snoc hcl)
  have s7 := same_mut (o := .lst (ys5 ++ [.ref t])) (s5.trans (same_upd (o := .tup [.str "claim", .int h]) ht)) hD
  have g7 : upd (upd H5 t (.tup [.str "claim", .int h])) D (.lst (ys5 ++ [.ref t])) D = some (.lst (ys5 ++ [.ref t])) := upd_same
  have k7 := hy7.length
  have b7 : (es5 ++ [tagD "claim" (.int h)]).length ≤ 301 := by rw [List.length_append, List.length_singleton]; omega
  generalize upd (upd H5 t (.tup [.str "claim", .int h])) D (.lst (ys5 ++ [.ref t])) = H7 at s7 g7 hy7
  generalize ys5 ++ [V.ref t] = ys7 at g7 hy7 k7
  generalize es5 ++ [tagD "claim" (.int h)] = es7 at hy7 n7 k7 b7 q3
  walk_at "rds"
  intro S hS
  have hS0 : H S = none := same_none s7 hS
  walk_at "rds"
  have g8 := (same_upd (o := .lst []) hS) _ _ g7
  have hy8 := hy7.on (same_upd (o := .lst []) hS)
  have s8 := s7.trans (same_upd (o := .lst []) hS)
  have hS8 : upd H7 S (.lst []) S = some (.lst []) := upd_same
  have hDS : D ≠ S := ne_of_none g7 hS
  generalize upd H7 S (.lst []) = H8 at g8 hy8 s8 hS8
  refine ⟨⟨_, sq g8⟩, ?_⟩
  refine for_it (walk_list (K := K) (a := D) (xs := ys7)) (Pv := fun i σ' H' => ∃ y8 y9 y10 zs, σ' = [some (.ref g), some (.int me), some (.ref a1), some (.ref a2), some (.ref a3), some (.int h), some (.ref D), some (.ref S), y8, y9, y10] ∧ Same H H' ∧ H' D = some (.lst ys7) ∧ H' S = some (.lst zs) ∧ DtAll K H' none ys7 es7 ∧ DtAll K H' none zs (allD (3 * n + 1) me (es7.take i))) ⟨none, none, none, [], rfl, s8, g8, hS8, hy8, .nil⟩ (fun i σ' H' _ h => by obtain ⟨_, _, _, _, _, _, h, _⟩ := h; exact sq h) (fun i x σ' Ha Hb hi hp' hy => ?_) (fun σ' Ha hp' => ?_)
  · obtain ⟨y8, y9, y10, zs, rfl, sa, gD, gS, hyD, hyS⟩ := hp'
    obtain ⟨rfl, gx⟩ := hy
    obtain ⟨d, gd, hdx⟩ := hyD.get gx
    have nd : noL d = true := noLs_app.noLs_mem' n7 (List.mem_of_getElem? gd)
    walk_at "rds"
    refine ⟨.inl ⟨rfl, _, sq gS⟩, ?_⟩
    walk_at "rds"
    refine ⟨g, n, me, x, d, rfl, ⟨_, sa _ _ gr.choose_spec⟩, hn, hdx, nd, fun Hc r xs sc hr hc hxc => ?_⟩
    have gS := sc _ _ gS
    walk_at "rds"
    have la := allD_len (M := 3 * n + 1) (me := me) (ls := es7.take i)
    have lb := othersD_len (3 * n + 1) me d
    have lt : (es7.take i).length ≤ 301 := by rw [List.length_take]; omega
    have lm : (3 * n + 1) * (es7.take i).length ≤ 31 * 301 := Nat.mul_le_mul (by omega) lt
    refine ⟨S, r, _, _, rfl, rfl, gS, hc, sz1000 (by rw [hyS.length, hxc.length]; omega), ?_⟩
    have nn := noLs_app (allD_noLs (M := 3 * n + 1) (me := me) (ls := es7.take i) (noLs_all fun e he => noLs_app.noLs_mem' n7 (List.mem_of_mem_take he))) (othersD_noLs (M := 3 * n + 1) (me := me) nd)
    have tp := tp_put (ys := zs ++ xs) gS
    refine ⟨_, _, _, _, rfl, same_mut (sa.trans sc) hS0, by rw [upd_ne hDS]; exact sc _ _ gD, upd_same, DtAll.keep (A := none) tp _ _ n7 (hyD.on sc), ?_⟩
    rw [allD_take gd]
    exact DtAll.keep (A := none) tp _ _ nn ((hyS.on sc).app hxc)
  · obtain ⟨y8, y9, y10, zs, rfl, sa, gD, gS, hyD, hyS⟩ := hp'
    walk_at "rds"
    rw [List.take_of_length_le (by omega)] at hyS
    exact q3 _ _ _ sa hS0 gS hyS
/-! gives and answers -/
def IsB (d : PyData) : Prop := ∃ e p h cs, d = .tuple [e, p, .int h, cs]
def giveF (r ht : Int) : PyData → Option PyData
  | .tuple [e, p, .int h, cs] => if h > ht then some (.tuple [.int r, .tuple [.str "give", .int h, .tuple [e, p, .int h, cs]]]) else none
  | _ => none
theorem Dt.b4 {H : Hp} {A : Option Addr} {v : V} {e p cs : PyData} {h : Int} (D : Dt K H A v (.tuple [e, p, .int h, cs])) : ∃ a x1 x2 x4, v = .ref a ∧ TupAt K H a [x1, x2, .int h, x4] := by
  cases D with
  | tup ha hd =>
    cases hd with
    | cons h1 hd =>
      cases hd with
      | cons h2 hd =>
        cases hd with
        | cons h3 hd =>
          cases hd with
          | cons h4 hd =>
            cases hd
            cases h3
            exact ⟨_, _, _, _, rfl, ha⟩
def spGives (K : PySem.W.Frag) : Sp := fun vs H Q _ => ∃ (a : Addr) (ds : List PyData) (r h : Int), vs = [.int r, .ref a, .int h] ∧ LD K H a ds 100 ∧ (∀ d ∈ ds, IsB d) ∧
  ∀ H' l xs, Same H H' → H l = none → H' l = some (.lst xs) → DtAll K H' none xs (ds.filterMap (giveF r h)) → Q (.ref l) H'
theorem give_noL {r ht : Int} {d e : PyData} (h : noL d = true) (he : giveF r ht d = some e) : noL e = true := by
  unfold giveF at he
  split at he
  · split at he
    · cases he
      show (true && ((true && (true && (noL _ && true))) && true)) = true
      rw [h]; rfl
    · cases he
  · cases he
theorem c_gives {C_Group : Addr} {C_BadGroup : Addr} (T : Txt K mg C_Group C_BadGroup) : Cal P w K mg base 1 "gives" (spGives K) [] := by
  refine cal T.d_gives sc_gives (fun vs H Q E h => ?_) (fun f cdv A outer s H vs Q E hr h => ?_)
  · obtain ⟨a, ds, r, h, rfl, _⟩ := h; rfl
  obtain ⟨a, ds, r, ht, rfl, l1, hb, q⟩ := h
  refine ⟨_, (pss_one (ps_ret (pe_lc (own := [("block", 3)]) (g := gName 3) (by rfl) sc_gives.nd (pi_list (pv 1)) (blkOk_by (own := [("block", 3)]) (N := ["receiver", "blocks", "height", "block"]) (sc := defScope s_gives) (by decide +kernel)) (fun _ _ _ _ _ => pg_name (i := 3) sc_gives.nd rfl (Or.inl rfl)) (fun _ _ _ _ _ => pts_one (pt_cmpR op_gt (pe_ix (kixt (K := K)) (pv 3) pe_int (fun _ _ => rfl)) (pv 2) (nomark _))) (fun _ _ _ _ _ => (pe_tup (pa_cons (pv 0) (pa_cons (pe_tup (pa_cons pe_str (pa_cons (pe_ix (kixt (K := K)) (pv 3) pe_int (fun _ _ => rfl)) (pa_cons (pv 3) pa_nil)))) pa_nil))))))), ?_⟩
  walk_at "rds"
  obtain ⟨xs1, e1, hx1⟩ := l1.ex
  refine ⟨⟨_, sq e1⟩, fun D hD => ?_⟩
  refine lc_list_dt (K := K) hD (sq e1) hx1 (by rw [hx1.length]; have := l1.ln; omega) (giveF r ht) (fun x e hx he => give_noL (noLs_app.noLs_mem' l1.nl hx) he) (fun x d' H7 hx s7 hdx R R0 hR hR0 => ?_) (fun H1 ys1 s1 g1 hy1 => q _ _ _ s1 hD g1 hy1)
  obtain ⟨e, p, h, cs, rfl⟩ := hb _ hx
  obtain ⟨b, x1, x2, x4, rfl, hbt⟩ := hdx.b4
  refine ⟨rfl, ?_⟩
  walk_at "rds"
  refine ⟨b, _, 2, _, rfl, rfl, hbt.sq, atI_nat (j := 2) rfl, ?_⟩
  walk_at "rds"
  by_cases hh : h > ht
  · refine ifT (decide_eq_true hh) ?_
    walk_at "rds"
    refine ⟨b, _, 2, _, rfl, rfl, hbt.sq, atI_nat (j := 2) rfl, ?_⟩
    walk_at "rds"
    intro t ht1
    walk_at "rds"
    intro t2 ht2
    have hdx := (hdx.on (same_upd (o := .tup [V.str "give", .int h, .ref b]) ht1)).on (same_upd (o := .tup [V.int r, .ref t]) ht2)
    refine hR _ (if_pos hh) _ _ ((same_upd ht1).trans (same_upd ht2)) (.tup (.inl upd_same) (.cons (.int _) (.cons (.tup (.inl ((same_upd ht2) _ _ upd_same)) (.cons (.str _ (by decide)) (.cons (.int _) (.cons hdx .nil)))) .nil)))
  · refine ifF (decide_eq_false hh) ?_
    exact hR0 (if_neg hh) _ (Same.refl _)
def IsR (d : PyData) : Prop := ∃ c n a, d = .tuple [c, n, a]
def ansF : PyData → Option PyData
  | .tuple [c, n, a] => some (.tuple [c, .tuple [.str "answer", n, a]])
  | _ => none
theorem ans_noL {d e : PyData} (h : noL d = true) (he : ansF d = some e) : noL e = true := by
  unfold ansF at he
  split at he
  · cases he
    rename_i c n a
    have h : (noL c && (noL n && (noL a && true))) = true := h
    simp only [Bool.and_eq_true] at h
    show (noL c && ((true && (noL n && (noL a && true))) && true)) = true
    rw [h.1, h.2.1, h.2.2.1]; rfl
  · cases he
def spAnswers (K : PySem.W.Frag) : Sp := fun vs H Q _ => ∃ (a : Addr) (ds : List PyData), vs = [.ref a] ∧ LD K H a ds 100 ∧ (∀ d ∈ ds, IsR d) ∧
  ∀ H' l xs, Same H H' → H l = none → H' l = some (.lst xs) → DtAll K H' none xs (ds.filterMap ansF) → Q (.ref l) H'
theorem c_answers {C_Group : Addr} {C_BadGroup : Addr} (T : Txt K mg C_Group C_BadGroup) : Cal P w K mg base 1 "answers" (spAnswers K) [] := by
  refine cal T.d_answers sc_answers (fun vs H Q E h => ?_) (fun f cdv A outer s H vs Q E hr h => ?_)
  · obtain ⟨a, ds, rfl, _⟩ := h; rfl
  obtain ⟨a, ds, rfl, l1, hb, q⟩ := h
  refine ⟨_, (pss_one (ps_ret (pe_lc (own := [("client", 1), ("number", 2), ("answer", 3)]) (g := _) (by rfl) sc_answers.nd (pi_list (pv 0)) (blkOk_by (own := [("client", 1), ("number", 2), ("answer", 3)]) (N := ["rows", "client", "number", "answer"]) (sc := defScope s_answers) (by decide +kernel)) (fun _ _ _ _ _ => kgtup (K := K) (n := 3) (by rfl) (pgs_cons (pg_name (i := 1) sc_answers.nd rfl (Or.inl rfl)) (pgs_cons (pg_name (i := 2) sc_answers.nd rfl (Or.inl rfl)) (pgs_cons (pg_name (i := 3) sc_answers.nd rfl (Or.inl rfl)) pgs_nil)))) (fun _ _ _ _ _ => pts_nil) (fun _ _ _ _ _ => (pe_tup (pa_cons (pv 1) (pa_cons (pe_tup (pa_cons pe_str (pa_cons (pv 2) (pa_cons (pv 3) pa_nil)))) pa_nil))))))), ?_⟩
  walk_at "rds"
  obtain ⟨xs1, e1, hx1⟩ := l1.ex
  refine ⟨⟨_, sq e1⟩, fun D hD => ?_⟩
  refine lc_list_dt (K := K) hD (sq e1) hx1 (by rw [hx1.length]; have := l1.ln; omega) ansF (fun x e hx he => ans_noL (noLs_app.noLs_mem' l1.nl hx) he) (fun x d' H7 hx s7 hdx R R0 hR hR0 => ?_) (fun H1 ys1 s1 g1 hy1 => q _ _ _ s1 hD g1 hy1)
  obtain ⟨c, n, an, rfl⟩ := hb _ hx
  obtain ⟨b, x1, x2, x3, rfl, hbt, h1, h2, h3⟩ := hdx.three
  refine ⟨b, _, rfl, hbt.sq, rfl, _, _, rfl, _, _, rfl, _, _, rfl, rfl, rfl, tyes ?_⟩
  walk_at "rds"
  intro t ht1
  walk_at "rds"
  intro t2 ht2
  have s8 := (same_upd (o := .tup [V.str "answer", x2, x3]) ht1).trans (same_upd (o := .tup [x1, .ref t]) ht2)
  refine hR _ rfl _ _ s8 (.tup (.inl upd_same) (.cons (h1.on s8) (.cons (.tup (.inl ((same_upd ht2) _ _ upd_same)) (.cons (.str _ (by decide)) (.cons (h2.on s8) (.cons (h3.on s8) .nil)))) .nil)))
end

/-! ### the law -/
def blkD (n : Int) : PyData := .tuple [.int (4 + n % 5), .int 3, .int (1 + n / 5 % 3 + 1), .tuple [.tuple [.int (-1 - n % 7), .int (1 + n % 3), .str "a"]]]
def spBlk (K : PySem.W.Frag) : Sp := fun vs H Q _ => ∃ c : Int, vs = [.int c] ∧ ∀ H' v, Same H H' → Dt K H' none v (blkD c) → Q v H'
def spAll (K : PySem.W.Frag) : Sp := fun vs H Q _ => ∃ (me : Int) (M : Nat) (a : Addr) (ds : List PyData), vs = [.int me, .int M, .ref a] ∧ M ≤ 31 ∧ LD K H a ds 301 ∧
  ∀ H' l xs, Same H H' → H l = none → H' l = some (.lst xs) → DtAll K H' none xs (allD M me ds) → Q (.ref l) H'
theorem othersD_succ {M : Nat} {me : Int} {l : PyData} : othersD (M + 1) me l = othersD M me l ++ (if (M : Int) = me then [] else [sendD M l]) := by
  unfold othersD
  rw [List.range_succ, List.filterMap_append]
  congr 1
  by_cases h : (M : Int) = me
  · rw [if_pos h, List.filterMap_cons, if_pos h]; rfl
  · rw [if_neg h, List.filterMap_cons, if_neg h]; rfl
theorem ints_dt {K : PySem.W.Frag} {H : Hp} {A : Option Addr} : ∀ ys : List Int, DtAll K H A (ys.map V.int) (ys.map PyData.int)
  | [] => .nil
  | y :: r => .cons (.int y) (ints_dt r)
def intF (f : Int → PyData) : PyData → Option PyData
  | .int x => some (f x)
  | _ => none
theorem intF_all (f : Int → PyData) (ys : List Int) : (ys.map PyData.int).filterMap (intF f) = ys.map f := by
  rw [List.filterMap_map]
  exact filterMap_some f ys
theorem intF_noL {f : Int → PyData} (hf : ∀ x, noL (f x) = true) {ys : List Int} {d e : PyData} (hd : d ∈ ys.map PyData.int) (he : intF f d = some e) : noL e = true := by
  obtain ⟨x, _, rfl⟩ := List.mem_map.mp hd
  cases he
  exact hf x
theorem map_noLs {f : Int → PyData} (hf : ∀ x, noL (f x) = true) (ys : List Int) : noLs (ys.map f) = true := noLs_all fun d hd => by
  obtain ⟨x, _, rfl⟩ := List.mem_map.mp hd
  exact hf x
def vouD (x : Int) : PyData := .tuple [.int (-1 - x % 9), .int (1 + x / 9 % 4), .str "b"]
theorem LD.mk' {K : PySem.W.Frag} {H : Hp} {a : Addr} {xs : List V} {ds : List PyData} {n : Nat} (h1 : H a = some (.lst xs)) (h2 : DtAll K H none xs ds) (h3 : noLs ds = true) (h4 : ds.length ≤ n) : LD K H a ds n := ⟨⟨xs, h1, h2⟩, h3, h4⟩
theorem vouD_ly (x : Int) : Ly 1 (vouD x) := ly_tup (ly_cons (ly_int _) (ly_cons (ly_int _) (ly_cons (ly_str (by decide +kernel)) ly_nil)))
theorem blkD_ly (x : Int) : Ly 3 (blkD x) := ly_tup (ly_cons (ly_int _) (ly_cons (ly_int _) (ly_cons (ly_int _) (ly_cons (ly_tup (ly_cons (ly_tup (ly_cons (ly_int _) (ly_cons (ly_int _) (ly_cons (ly_str (by decide +kernel)) ly_nil)))) ly_nil)) ly_nil))))
theorem tag_ly {k : Nat} {z : Str} {ds : List PyData} (hz : PyData.strOk z = true) (h : ∀ d ∈ ds, Ly k d) : ∀ d ∈ ds.map (tagD z), Ly (k + 1) d := fun d hd => by
  obtain ⟨e, he, rfl⟩ := List.mem_map.mp hd
  exact ly_tup (ly_cons (ly_str hz) (ly_cons (h e he) ly_nil))
theorem othersD_ly {k M : Nat} {me : Int} {l : PyData} (h : Ly k l) : ∀ d ∈ othersD M me l, Ly (k + 1) d := fun d hd => by
  unfold othersD at hd
  obtain ⟨i, _, hi⟩ := List.mem_filterMap.mp hd
  by_cases e : (i : Int) = me
  · rw [if_pos e] at hi; cases hi
  · rw [if_neg e] at hi; cases hi
    exact ly_tup (ly_cons (ly_int _) (ly_cons h ly_nil))
theorem allD_ly {k M : Nat} {me : Int} {ls : List PyData} (h : ∀ d ∈ ls, Ly k d) : ∀ d ∈ allD M me ls, Ly (k + 1) d := fun d hd => by
  obtain ⟨l, hl, hd⟩ := List.mem_flatMap.mp hd
  exact othersD_ly (h l hl) d hd
def rowF : PyData → Option PyData
  | .tuple [c, n, .str z] => some (.tuple [c, n, .str (z ++ "x")])
  | _ => none
structure Env (K : PySem.W.Frag) (C : Addr) (H0 H : Hp) (g a1 a2 a3 : Addr) (f : Nat) (ds1 ds2 ds3 : List PyData) : Prop where
  sm : Same H0 H
  gr : GrAt C H g f
  l1 : LD K H a1 ds1 100
  l2 : LD K H a2 ds2 100
  l3 : LD K H a3 ds3 100
theorem Env.on {K : PySem.W.Frag} {C : Addr} {H0 H H' : Hp} {g a1 a2 a3 : Addr} {f : Nat} {ds1 ds2 ds3 : List PyData} (e : Env K C H0 H g a1 a2 a3 f ds1 ds2 ds3) (s : Same H H') : Env K C H0 H' g a1 a2 a3 f ds1 ds2 ds3 :=
  ⟨e.sm.trans s, e.gr.imp fun _ h => s _ _ h, e.l1.on s, e.l2.on s, e.l3.on s⟩
section
variable {P : Program} {w : World} {K : PySem.W.Frag} {mg : Str → Option Value} {base : Heap}
theorem c__law_block {C_Group : Addr} {C_BadGroup : Addr} (T : Txt K mg C_Group C_BadGroup) : Cal P w K mg base 1 "_law_block" (spBlk K) [] := by
  refine cal T.d__law_block sc__law_block (fun vs H Q E h => ?_) (fun f cdv A outer s H vs Q E hr h => ?_)
  · obtain ⟨c, rfl, _⟩ := h; rfl
  obtain ⟨c, rfl, q⟩ := h
  refine ⟨_, (pss_one (ps_ret (pe_tup (pa_cons (pe_op op_add pe_int (pe_op op_mod (pv 0) pe_int)) (pa_cons pe_int (pa_cons (pe_op op_add (pe_op op_add pe_int (pe_op op_mod (pe_op op_fdiv (pv 0) pe_int) pe_int)) pe_int) (pa_cons (pe_tup (pa_cons (pe_tup (pa_cons (pe_op op_sub (pe_un un_neg pe_int) (pe_op op_mod (pv 0) pe_int)) (pa_cons (pe_op op_add pe_int (pe_op op_mod (pv 0) pe_int)) (pa_cons pe_str pa_nil)))) pa_nil)) pa_nil))))))), ?_⟩
  walk_at "rds"
  intro t1 h1
  have s1 := same_upd (o := .tup [.int (-1 - c % 7), .int (1 + c % 3), .str "a"]) h1
  have d1 : Dt K (upd H t1 (.tup [.int (-1 - c % 7), .int (1 + c % 3), .str "a"])) none (.ref t1) (.tuple [.int (-1 - c % 7), .int (1 + c % 3), .str "a"]) := .tup (.inl upd_same) (.cons (.int _) (.cons (.int _) (.cons (.str _ (by decide)) .nil)))
  generalize upd H t1 (.tup [V.int (-1 - c % 7), .int (1 + c % 3), .str "a"]) = H1 at s1 d1
  walk_at "rds"
  intro t2 h2
  have s2 := s1.trans (same_upd (o := .tup [.ref t1]) h2)
  have d2 : Dt K (upd H1 t2 (.tup [.ref t1])) none (.ref t2) (.tuple [.tuple [.int (-1 - c % 7), .int (1 + c % 3), .str "a"]]) := .tup (.inl upd_same) (.cons (d1.on (same_upd h2)) .nil)
  generalize upd H1 t2 (.tup [V.ref t1]) = H2 at s2 d2
  walk_at "rds"
  intro t3 h3
  refine q _ _ (s2.trans (same_upd h3)) (.tup (.inl upd_same) (.cons (.int _) (.cons (.int _) (.cons (.int _) (.cons (d2.on (same_upd h3)) .nil)))))
theorem c__law_all {C_Group : Addr} {C_BadGroup : Addr} (T : Txt K mg C_Group C_BadGroup) : Cal P w K mg base 1 "_law_all" (spAll K) [] := by
  refine cal T.d__law_all sc__law_all (fun vs H Q E h => ?_) (fun f cdv A outer s H vs Q E hr h => ?_)
  · obtain ⟨me, M, a, ds, rfl, _⟩ := h; rfl
  obtain ⟨me, M, a, ds, rfl, hM, l1, q⟩ := h
  refine ⟨_, (pss_cons (ps_set (i := 3) sc__law_all.nd rfl (Or.inl rfl) (pe_lst pa_nil))
      (pss_cons (ps_for PassesOwn.never rfl (pi_list (pv 2)) (pg_name (i := 4) sc__law_all.nd rfl (Or.inl rfl)) (pss_one (ps_for PassesOwn.never rfl (pi_range1 (by rfl) T.z_range (pa_cons (pv 1) pa_nil)) (pg_name (i := 5) sc__law_all.nd rfl (Or.inl rfl)) (pss_one (ps_if (pt_cmpR op_ne (pv 5) (pv 0) (nomark _)) (pss_one (ps_expr (pe_bm PySem.F.plainAttrs_list PySem.F.slot_list_append PySem.F.type_list_append mt_append (pv 3) (pa_cons (pe_tup (pa_cons (pv 5) (pa_cons (pv 4) pa_nil))) pa_nil)))) pss_nil)))))
      (pss_one (ps_ret (pv 3))))), ?_⟩
  walk_at "rds"
  intro S hS
  walk_at "rds"
  have n1 := l1.nl
  have ln := l1.ln
  obtain ⟨xs, e1, hx1⟩ := l1.ex
  have hSS : upd H S (.lst []) S = some (.lst []) := upd_same
  have s0 := same_upd (o := .lst []) hS
  have e0 := s0 _ _ e1
  have hx0 := hx1.on s0
  have haS : a ≠ S := ne_of_none e1 hS
  generalize upd H S (.lst []) = H0 at hSS s0 e0 hx0
  refine ⟨⟨_, sq e0⟩, ?_⟩
  refine for_it (walk_list (K := K) (a := a) (xs := xs)) (Pv := fun i σ' H' => ∃ y4 y5 zs, σ' = [some (.int me), some (.int M), some (.ref a), some (.ref S), y4, y5] ∧ Same H H' ∧ H' a = some (.lst xs) ∧ H' S = some (.lst zs) ∧ DtAll K H' none xs ds ∧ DtAll K H' none zs (allD M me (ds.take i))) ⟨none, none, [], rfl, s0, e0, hSS, hx0, .nil⟩ (fun i σ' H' _ h => by obtain ⟨_, _, _, _, _, h, _⟩ := h; exact sq h) (fun i x σ' Ha Hb hi hp' hy => ?_) (fun σ' Ha hp' => ?_)
  · obtain ⟨y4, y5, zs, rfl, sa, gA, gS, hyA, hyS⟩ := hp'
    obtain ⟨rfl, gx⟩ := hy
    obtain ⟨d, gd, hdx⟩ := hyA.get gx
    have nd : noL d = true := noLs_app.noLs_mem' n1 (List.mem_of_getElem? gd)
    have la := allD_len (M := M) (me := me) (ls := ds.take i)
    have lt : (ds.take i).length ≤ 301 := by rw [List.length_take]; omega
    have lm : M * (ds.take i).length ≤ 31 * 301 := Nat.mul_le_mul hM lt
    have na := allD_noLs (M := M) (me := me) (ls := ds.take i) (noLs_all fun e he => noLs_app.noLs_mem' n1 (List.mem_of_mem_take he))
    walk_at "rds"
    refine for_it walk_range (Pv := fun j σ' H' => ∃ y5 zs, σ' = [some (.int me), some (.int M), some (.ref a), some (.ref S), some x, y5] ∧ Same H H' ∧ H' a = some (.lst xs) ∧ H' S = some (.lst zs) ∧ DtAll K H' none xs ds ∧ Dt K H' none x d ∧ DtAll K H' none zs (allD M me (ds.take i) ++ othersD j me d)) ⟨_, zs, rfl, sa, gA, gS, hyA, hdx, by rw [show othersD 0 me d = [] from rfl, List.append_nil]; exact hyS⟩ (fun _ _ _ _ _ => trivial) (fun j x' σ' Hc Hd hj hp hy => ?_) (fun σ' Hc hp => ?_)
    · obtain ⟨z5, ws, rfl, sc, gA, gS, hyA, hdx, hyS⟩ := hp
      obtain ⟨rfl, rfl⟩ := hy
      have hj : j < M := by omega
      have e0 : (0 : Int) + (j : Int) = (j : Int) := by omega
      have lj := othersD_len j me d
      walk_at "rds"
      refine ite2 (fun e => ?_) (fun e => ?_)
      · have e : ¬ (j : Int) = me := fun z => by
          have h2 : decide (V.int (0 + (j : Int)) = V.int me) = true := decide_eq_true (by rw [e0, z])
          have e : (!decide (V.int (0 + (j : Int)) = V.int me)) = true := e
          rw [h2] at e
          cases e
        walk_at "rds"
        refine ⟨.inl ⟨rfl, _, sq gS⟩, ?_⟩
        walk_at "rds"
        intro t ht
        have gS2 := (same_upd (o := .tup [.int (0 + (j : Int)), x]) ht) _ _ gS
        refine ⟨S, _, _, rfl, rfl, gS2, sz1000' (by rw [hyS.length, List.length_append]; omega), ?_⟩
        have hnew : Dt K (upd Hd t (.tup [.int (0 + (j : Int)), x])) none (.ref t) (sendD j d) := .tup (.inl upd_same) (.cons (by rw [e0]; exact .int _) (.cons (hdx.on (same_upd ht)) .nil))
        have tp := tp_put (ys := ws ++ [.ref t]) gS2
        have nn : noLs (allD M me (ds.take i) ++ othersD j me d ++ [sendD j d]) = true := noLs_app (noLs_app na (othersD_noLs nd)) (by show ((true && (noL d && true)) && true) = true; rw [nd]; rfl)
        refine ⟨_, _, rfl, same_mut (sc.trans (same_upd ht)) hS, by rw [upd_ne haS]; exact (same_upd ht) _ _ gA, upd_same, DtAll.keep (A := none) tp _ _ n1 (hyA.on (same_upd ht)), Dt.keep (A := none) tp _ _ nd (hdx.on (same_upd ht)), ?_⟩
        rw [othersD_succ, if_neg e, ← List.append_assoc]
        exact DtAll.keep (A := none) tp _ _ nn ((hyS.on (same_upd ht)).snoc hnew)
      · have e : (j : Int) = me := by
          by_cases h : (j : Int) = me
          · exact h
          · refine absurd ?_ e
            show (!decide (V.int (0 + (j : Int)) = V.int me)) = true
            rw [decide_eq_false (fun z => h (by have := V.int.inj z; omega))]; rfl
        refine ⟨_, ws, rfl, sc, gA, gS, hyA, hdx, ?_⟩
        rw [othersD_succ, if_pos e, List.append_nil]
        exact hyS
    · obtain ⟨z5, ws, rfl, sc, gA, gS, hyA, hdx, hyS⟩ := hp
      refine ⟨_, _, ws, rfl, sc, gA, gS, hyA, ?_⟩
      rw [allD_take gd]
      exact hyS
  · obtain ⟨y4, y5, zs, rfl, sa, gA, gS, hyA, hyS⟩ := hp'
    walk_at "rds"
    rw [hx1.length, List.take_of_length_le (Nat.le_refl _)] at hyS
    exact q _ _ _ sa hS gS hyS
end
--@SPLIT
section
variable {P : Program} {w : World} {K : PySem.W.Frag} {mg : Str → Option Value} {base : Heap}
theorem ok_law {C_Group : Addr} {C_BadGroup : Addr} {f : Addr} {fd : FuncData} (F : L2.Fun K "law" "law" s_law f fd) (T : Txt K mg C_Group C_BadGroup) : FnOk P w K mg base L2.CX0 5 f fd ["script"] (spLaw K) := by
  have c__law_cell := c__law_cell (P := P) (w := w) (base := base) T
  have c__law_draws := c__law_draws (P := P) (w := w) (base := base) T
  have c__law_block := c__law_block (P := P) (w := w) (base := base) T
  have c__law_all := c__law_all (P := P) (w := w) (base := base) T
  have c_repeats := c_repeats (P := P) (w := w) (base := base) T
  have c_to_others := c_to_others (P := P) (w := w) (base := base) T
  have c_gives := c_gives (P := P) (w := w) (base := base) T
  have c_answers := c_answers (P := P) (w := w) (base := base) T
  have k_Group := k_Group (P := P) (w := w) (base := base) T
  refine F.ok sc_law (fun vs H Q E h => ?_) (fun cdv A outer s H vs Q E hr h => ?_)
  · obtain ⟨a, ns, rfl, _⟩ := h; rfl
  obtain ⟨a, ns, rfl, hS, hlen, q⟩ := h
  refine ⟨_, (pss_cons (ps_set (i := 1) sc_law.nd rfl (Or.inl rfl) (pe_op op_mod (pe_c c__law_cell hr (by decide) (by rfl) (pa_cons (pv 0) (pa_cons pe_int pa_nil))) pe_int))
      (pss_cons (ps_set (i := 2) sc_law.nd rfl (Or.inl rfl) (pe_op op_add (pe_op op_mul pe_int (pv 1)) pe_int))
      (pss_cons (ps_set (i := 3) sc_law.nd rfl (Or.inr rfl) (pe_op op_mod (pe_op op_fdiv (pe_c c__law_cell hr (by decide) (by rfl) (pa_cons (pv 0) (pa_cons pe_int pa_nil))) pe_int) (pv 2)))
      (pss_cons (ps_set (i := 4) sc_law.nd rfl (Or.inl rfl) (pe_mkX k_Group hr (by decide) (by rfl) no_pass (pa_cons (pv 1) pa_nil)))
      (pss_cons (ps_set (i := 5) sc_law.nd rfl (Or.inl rfl) (pe_c c__law_draws hr (by decide) (by rfl) (pa_cons (pv 0) (pa_cons pe_int (pa_cons pe_int pa_nil)))))
      (pss_cons (ps_setLc (i := 6) (own := [("draw", 17)]) (g := gName 17) rfl sc_law.nd rfl rfl (sw_true rfl rfl rfl (by decide +kernel)) (pi_list (pe_slice (ksll (K := K)) (pv 5) po_none (po_some pe_int))) (blkOk_by (own := [("draw", 17)]) (N := ["script", "faults", "machines", "me", "group", "draws", "vouches", "votes", "readies", "height", "letters", "passed", "letter", "blocks", "given", "rows", "told", "draw", "command", "block", "row"]) (sc := defScope s_law) (by decide +kernel)) (fun _ _ _ _ _ => pg_name (i := 17) sc_law.nd rfl (Or.inl rfl)) (fun _ _ _ _ _ => pts_nil) (fun _ _ _ _ _ => (pe_tup (pa_cons (pe_op op_sub (pe_un un_neg pe_int) (pe_op op_mod (pv 17) pe_int)) (pa_cons (pe_op op_add pe_int (pe_op op_mod (pe_op op_fdiv (pv 17) pe_int) pe_int)) (pa_cons pe_str pa_nil))))))
      (pss_cons (ps_setLc (i := 7) (own := [("draw", 17)]) (g := gName 17) rfl sc_law.nd rfl rfl (sw_true rfl rfl rfl (by decide +kernel)) (pi_list (pe_slice (ksll (K := K)) (pv 5) (po_some pe_int) (po_some pe_int))) (blkOk_by (own := [("draw", 17)]) (N := ["script", "faults", "machines", "me", "group", "draws", "vouches", "votes", "readies", "height", "letters", "passed", "letter", "blocks", "given", "rows", "told", "draw", "command", "block", "row"]) (sc := defScope s_law) (by decide +kernel)) (fun _ _ _ _ _ => pg_name (i := 17) sc_law.nd rfl (Or.inl rfl)) (fun _ _ _ _ _ => pts_nil) (fun _ _ _ _ _ => (pe_c c__law_block hr (by decide) (by rfl) (pa_cons (pv 17) pa_nil))))
      (pss_cut (ps_setLc (i := 8) (own := [("draw", 17)]) (g := gName 17) rfl sc_law.nd rfl rfl (sw_true rfl rfl rfl (by decide +kernel)) (pi_list (pe_slice (ksll (K := K)) (pv 5) (po_some pe_int) (po_some pe_int))) (blkOk_by (own := [("draw", 17)]) (N := ["script", "faults", "machines", "me", "group", "draws", "vouches", "votes", "readies", "height", "letters", "passed", "letter", "blocks", "given", "rows", "told", "draw", "command", "block", "row"]) (sc := defScope s_law) (by decide +kernel)) (fun _ _ _ _ _ => pg_name (i := 17) sc_law.nd rfl (Or.inl rfl)) (fun _ _ _ _ _ => pts_nil) (fun _ _ _ _ _ => (pe_c c__law_block hr (by decide) (by rfl) (pa_cons (pe_op op_fdiv (pv 17) pe_int) pa_nil))))
      (pss_cons (ps_set (i := 9) sc_law.nd rfl (Or.inr rfl) (pe_op op_mod (pe_op op_fdiv (pe_c c__law_cell hr (by decide) (by rfl) (pa_cons (pv 0) (pa_cons pe_int pa_nil))) pe_int) pe_int))
      (pss_cons (ps_setLc (i := 10) (own := [("command", 18)]) (g := gName 18) rfl sc_law.nd rfl rfl (sw_true rfl rfl rfl (by decide +kernel)) (pi_list (pv 6)) (blkOk_by (own := [("command", 18)]) (N := ["script", "faults", "machines", "me", "group", "draws", "vouches", "votes", "readies", "height", "letters", "passed", "letter", "blocks", "given", "rows", "told", "draw", "command", "block", "row"]) (sc := defScope s_law) (by decide +kernel)) (fun _ _ _ _ _ => pg_name (i := 18) sc_law.nd rfl (Or.inl rfl)) (fun _ _ _ _ _ => pts_nil) (fun _ _ _ _ _ => (pe_tup (pa_cons pe_str (pa_cons (pv 18) pa_nil)))))
      (pss_cons (ps_set (i := 10) sc_law.nd rfl (Or.inl rfl) (pe_op op_cat (pv 10) (pe_lc (own := [("block", 19)]) (g := gName 19) (by rfl) sc_law.nd (pi_list (pv 7)) (blkOk_by (own := [("block", 19)]) (N := ["script", "faults", "machines", "me", "group", "draws", "vouches", "votes", "readies", "height", "letters", "passed", "letter", "blocks", "given", "rows", "told", "draw", "command", "block", "row"]) (sc := defScope s_law) (by decide +kernel)) (fun _ _ _ _ _ => pg_name (i := 19) sc_law.nd rfl (Or.inl rfl)) (fun _ _ _ _ _ => pts_nil) (fun _ _ _ _ _ => (pe_tup (pa_cons pe_str (pa_cons (pv 19) pa_nil)))))))
      (pss_cons (ps_set (i := 10) sc_law.nd rfl (Or.inl rfl) (pe_op op_cat (pv 10) (pe_lc (own := [("block", 19)]) (g := gName 19) (by rfl) sc_law.nd (pi_list (pv 8)) (blkOk_by (own := [("block", 19)]) (N := ["script", "faults", "machines", "me", "group", "draws", "vouches", "votes", "readies", "height", "letters", "passed", "letter", "blocks", "given", "rows", "told", "draw", "command", "block", "row"]) (sc := defScope s_law) (by decide +kernel)) (fun _ _ _ _ _ => pg_name (i := 19) sc_law.nd rfl (Or.inl rfl)) (fun _ _ _ _ _ => pts_nil) (fun _ _ _ _ _ => (pe_tup (pa_cons pe_str (pa_cons (pv 19) pa_nil)))))))
      (pss_cut (ps_set (i := 10) sc_law.nd rfl (Or.inl rfl) (pe_op op_cat (pv 10) (pe_lst (pa_cons (pe_tup (pa_cons pe_str (pa_cons (pv 9) pa_nil))) pa_nil))))
      (pss_cons (ps_set (i := 11) sc_law.nd rfl (Or.inl rfl) (pe_lst (pa_cons (pe_callTy call_list_of (by rfl) T.z_list (by decide +kernel) (pa_cons (pv 6) pa_nil)) (pa_cons (pe_callTy call_list_of (by rfl) T.z_list (by decide +kernel) (pa_cons (pv 7) pa_nil)) (pa_cons (pe_callTy call_list_of (by rfl) T.z_list (by decide +kernel) (pa_cons (pv 8) pa_nil)) pa_nil)))))
      (pss_cut (ps_if (pt_cmpR (op_neD hr.units) (pe_c c_repeats hr (by decide) (by rfl) (pa_cons (pv 4) (pa_cons (pv 3) (pa_cons (pe_ix (kixl (K := K)) (pv 11) pe_int (fun _ _ => rfl)) (pa_cons (pe_ix (kixl (K := K)) (pv 11) pe_int (fun _ _ => rfl)) (pa_cons (pe_ix (kixl (K := K)) (pv 11) pe_int (fun _ _ => rfl)) (pa_cons (pv 9) pa_nil))))))) (pe_c c__law_all hr (by decide) (by rfl) (pa_cons (pv 3) (pa_cons (pv 2) (pa_cons (pv 10) pa_nil)))) (nomark _)) (pss_one (ps_ret pe_bl)) pss_nil)
      (pss_cut (ps_if (pt_cmpR (op_neD hr.units) (pv 11) (pe_lst (pa_cons (pv 6) (pa_cons (pv 7) (pa_cons (pv 8) pa_nil)))) (nomark _)) (pss_one (ps_ret pe_bl)) pss_nil)
      (pss_cut (ps_for PassesOwn.never rfl (pi_list (pv 10)) (pg_name (i := 12) sc_law.nd rfl (Or.inl rfl)) (pss_one (ps_if (pt_cmpR (op_neD hr.units) (pe_c c_to_others hr (by decide) (by rfl) (pa_cons (pv 4) (pa_cons (pv 3) (pa_cons (pv 12) pa_nil)))) (pe_c c__law_all hr (by decide) (by rfl) (pa_cons (pv 3) (pa_cons (pv 2) (pa_cons (pe_lst (pa_cons (pv 12) pa_nil)) pa_nil)))) (nomark _)) (pss_one (ps_ret pe_bl)) pss_nil)))
      (pss_cons (ps_set (i := 13) sc_law.nd rfl (Or.inl rfl) (pe_op op_cat (pv 7) (pv 8)))
      (pss_cons (ps_setLc (i := 14) (own := [("block", 19)]) (g := gName 19) rfl sc_law.nd rfl rfl (sw_true rfl rfl rfl (by decide +kernel)) (pi_list (pv 13)) (blkOk_by (own := [("block", 19)]) (N := ["script", "faults", "machines", "me", "group", "draws", "vouches", "votes", "readies", "height", "letters", "passed", "letter", "blocks", "given", "rows", "told", "draw", "command", "block", "row"]) (sc := defScope s_law) (by decide +kernel)) (fun _ _ _ _ _ => pg_name (i := 19) sc_law.nd rfl (Or.inl rfl)) (fun _ _ _ _ _ => pts_one (pt_cmpR op_gt (pe_ix (kixt (K := K)) (pv 19) pe_int (fun _ _ => rfl)) (pv 9) (nomark _))) (fun _ _ _ _ _ => (pe_tup (pa_cons (pv 3) (pa_cons (pe_tup (pa_cons pe_str (pa_cons (pe_ix (kixt (K := K)) (pv 19) pe_int (fun _ _ => rfl)) (pa_cons (pv 19) pa_nil)))) pa_nil)))))
      (pss_cut (ps_if (pt_cmpR (op_neD hr.units) (pe_c c_gives hr (by decide) (by rfl) (pa_cons (pv 3) (pa_cons (pv 13) (pa_cons (pv 9) pa_nil)))) (pv 14) (nomark _)) (pss_one (ps_ret pe_bl)) pss_nil)
      (pss_cons (ps_setLc (i := 15) (own := [("command", 18)]) (g := gName 18) rfl sc_law.nd rfl rfl (sw_true rfl rfl rfl (by decide +kernel)) (pi_list (pv 6)) (blkOk_by (own := [("command", 18)]) (N := ["script", "faults", "machines", "me", "group", "draws", "vouches", "votes", "readies", "height", "letters", "passed", "letter", "blocks", "given", "rows", "told", "draw", "command", "block", "row"]) (sc := defScope s_law) (by decide +kernel)) (fun _ _ _ _ _ => pg_name (i := 18) sc_law.nd rfl (Or.inl rfl)) (fun _ _ _ _ _ => pts_nil) (fun _ _ _ _ _ => (pe_tup (pa_cons (pe_ix (kixt (K := K)) (pv 18) pe_int (fun _ _ => rfl)) (pa_cons (pe_ix (kixt (K := K)) (pv 18) pe_int (fun _ _ => rfl)) (pa_cons (pe_op op_add_str (pe_ix (kixt (K := K)) (pv 18) pe_int (fun _ _ => rfl)) pe_str) pa_nil))))))
      (pss_cons (ps_setLc (i := 16) (own := [("row", 20)]) (g := gName 20) rfl sc_law.nd rfl rfl (sw_true rfl rfl rfl (by decide +kernel)) (pi_list (pv 15)) (blkOk_by (own := [("row", 20)]) (N := ["script", "faults", "machines", "me", "group", "draws", "vouches", "votes", "readies", "height", "letters", "passed", "letter", "blocks", "given", "rows", "told", "draw", "command", "block", "row"]) (sc := defScope s_law) (by decide +kernel)) (fun _ _ _ _ _ => pg_name (i := 20) sc_law.nd rfl (Or.inl rfl)) (fun _ _ _ _ _ => pts_nil) (fun _ _ _ _ _ => (pe_tup (pa_cons (pe_ix (kixt (K := K)) (pv 20) pe_int (fun _ _ => rfl)) (pa_cons (pe_tup (pa_cons pe_str (pa_cons (pe_ix (kixt (K := K)) (pv 20) pe_int (fun _ _ => rfl)) (pa_cons (pe_ix (kixt (K := K)) (pv 20) pe_int (fun _ _ => rfl)) pa_nil)))) pa_nil)))))
      (pss_one (ps_ret (pe_and (pe_cmpR (op_eqD hr.units) (pe_c c_answers hr (by decide) (by rfl) (pa_cons (pv 15) pa_nil)) (pv 16) (nomark _)) (pe_and (pe_callB (kisi (K := K)) (by rfl) T.z_isinstance (by decide +kernel) (pa_cons (pe_c c_answers hr (by decide) (by rfl) (pa_cons (pe_lst pa_nil) pa_nil)) (pa_cons (pe_bltn (v := .ty "list") (by rfl) T.z_list (by decide +kernel) rfl) pa_nil))) (pe_one (pe_cmpR op_eq (pe_callB (klen (K := K)) (by rfl) T.z_len (by decide +kernel) (pa_cons (pe_c c_answers hr (by decide) (by rfl) (pa_cons (pe_lst pa_nil) pa_nil)) pa_nil)) pe_int (nomark _))))))))))))))))))))))))))))), ?_⟩
  walk_at "rds"
  obtain ⟨c, hc⟩ : ∃ c, cellA ns 0 = c := ⟨_, rfl⟩
  have hc0 : 0 ≤ c := by rw [← hc]; exact cellA_nonneg ns 0
  refine ⟨a, ns, 0, rfl, hS, ?_⟩
  rw [hc]
  obtain ⟨n, hn⟩ := Int.eq_ofNat_of_zero_le (show 0 ≤ c % 4 by omega)
  have hn4 : n < 4 := by omega
  walk_at "rds"
  refine ⟨a, ns, 0, rfl, hS, ?_⟩
  rw [hc]
  walk_at "rds"
  intro g dx hp hdx hne
  refine ⟨g, dx, _, rfl, upd_same, .inl ⟨c % 4, rfl, by omega, by omega, fun H1 kp gr1 => ⟨rfl, ?_⟩⟩⟩
  have s1 : Same H H1 := Same.made hp hdx kp
  have gr1 : GrAt C_Group H1 g (n : Int) := by rw [← hn]; exact gr1
  walk_at "rds"
  refine ⟨a, ns, 1, 15, rfl, s1.seq hS, hlen, fun H2 D ds s2 hD0 hD hds hdl => ?_⟩
  have gr2 : GrAt C_Group H2 g (n : Int) := gr1.imp fun _ h => s2 _ _ h
  walk_at "rds"
  have hD1 := hD
  refine ⟨D, _, rfl, sq hD1, fun p1 hp1 => ?_⟩
  obtain ⟨ys1, ey1, yl1, _⟩ := cutV_map V.int ds none (some 5)
  rw [ey1]
  have sp1 := same_upd (o := .lst (ys1.map V.int)) hp1
  have gp1 : upd H2 p1 (.lst (ys1.map V.int)) p1 = some (.lst (ys1.map V.int)) := upd_same
  generalize upd H2 p1 (.lst (ys1.map V.int)) = G1 at sp1 gp1
  refine ⟨p1, rfl, ⟨_, sq gp1⟩, fun A1 hA1 => ?_⟩
  refine lc_list_dt (K := K) hA1 (sq gp1) (ints_dt ys1) (by rw [List.length_map]; omega) (intF (vouD)) (fun x e hx he => intF_noL (fun _ => rfl) hx he) (fun x d' H7 hx s7 hdx R R0 hR hR0 => ?_) (fun I1 xs1 t1 g1 hy1 => ?_)
  · obtain ⟨x', _, rfl⟩ := List.mem_map.mp hx
    cases hdx
    refine ⟨rfl, tyes ?_⟩
    walk_at "rds"
    intro t ht
    exact hR _ rfl _ _ (same_upd ht) (.tup (.inl upd_same) (.cons (.int _) (.cons (.int _) (.cons (.str _ (by decide)) .nil))))
  rw [intF_all] at hy1
  walk_at "rds"
  have hD2 := t1 _ _ (sp1 _ _ hD1)
  refine ⟨D, _, rfl, sq hD2, fun p2 hp2 => ?_⟩
  obtain ⟨ys2, ey2, yl2, _⟩ := cutV_map V.int ds (some 5) (some 10)
  rw [ey2]
  have sp2 := same_upd (o := .lst (ys2.map V.int)) hp2
  have gp2 : upd I1 p2 (.lst (ys2.map V.int)) p2 = some (.lst (ys2.map V.int)) := upd_same
  generalize upd I1 p2 (.lst (ys2.map V.int)) = G2 at sp2 gp2
  refine ⟨p2, rfl, ⟨_, sq gp2⟩, fun A2 hA2 => ?_⟩
  refine lc_list_dt (K := K) hA2 (sq gp2) (ints_dt ys2) (by rw [List.length_map]; omega) (intF (blkD)) (fun x e hx he => intF_noL (fun _ => rfl) hx he) (fun x d' H7 hx s7 hdx R R0 hR hR0 => ?_) (fun I2 xs2 t2 g2 hy2 => ?_)
  · obtain ⟨x', _, rfl⟩ := List.mem_map.mp hx
    cases hdx
    refine ⟨rfl, tyes ?_⟩
    walk_at "rds"
    exact fun H8 v s8 hv => hR _ rfl _ _ s8 hv
  rw [intF_all] at hy2
  refine ⟨fun σ' H' => ∃ A1 A2 A3 ds1 ds2 ds3, σ' = [some (.ref a), some (.int (c % 4)), some (.int (3 * (c % 4) + 1)), some (.int (c / 4 % (3 * (c % 4) + 1))), some (.ref g), some (.ref D), some (.ref A1), some (.ref A2), some (.ref A3), none, none, none, none, none, none, none, none, none, none, none, none] ∧ Env K C_Group H H' g A1 A2 A3 n ds1 ds2 ds3 ∧ (∀ d ∈ ds2, ∃ x, d = blkD x) ∧ (∀ d ∈ ds3, ∃ x, d = blkD x) ∧ (∀ d ∈ ds1, ∃ x, d = vouD x) ∧ ds1.length ≤ 15 ∧ ds2.length ≤ 15 ∧ ds3.length ≤ 15, ?_, ?_⟩
  · walk_at "rds"
    have hD3 := t2 _ _ (sp2 _ _ hD2)
    refine ⟨D, _, rfl, sq hD3, fun p3 hp3 => ?_⟩
    obtain ⟨ys3, ey3, yl3, _⟩ := cutV_map V.int ds (some 10) (some 15)
    rw [ey3]
    have sp3 := same_upd (o := .lst (ys3.map V.int)) hp3
    have gp3 : upd I2 p3 (.lst (ys3.map V.int)) p3 = some (.lst (ys3.map V.int)) := upd_same
    generalize upd I2 p3 (.lst (ys3.map V.int)) = G3 at sp3 gp3
    refine ⟨p3, rfl, ⟨_, sq gp3⟩, fun A3 hA3 => ?_⟩
    refine lc_list_dt (K := K) hA3 (sq gp3) (ints_dt ys3) (by rw [List.length_map]; omega) (intF (fun x => blkD (x / 3))) (fun x e hx he => intF_noL (fun _ => rfl) hx he) (fun x d' H7 hx s7 hdx R R0 hR hR0 => ?_) (fun I3 xs3 t3 g3 hy3 => ?_)
    · obtain ⟨x', _, rfl⟩ := List.mem_map.mp hx
      cases hdx
      refine ⟨rfl, tyes ?_⟩
      walk_at "rds"
      exact fun H8 v s8 hv => hR _ rfl _ _ s8 hv
    rw [intF_all] at hy3
    have sI2 : Same H I1 := ((s1.trans s2).trans sp1).trans t1
    have sI3 : Same H I2 := (sI2.trans sp2).trans t2
    have sI4 : Same H I3 := (sI3.trans sp3).trans t3
    have env : Env K C_Group H I3 g A1 A2 A3 n (ys1.map vouD) (ys2.map blkD) (ys3.map fun x => blkD (x / 3)) :=
      ⟨sI4, gr2.imp fun _ h => t3 _ _ (sp3 _ _ (t2 _ _ (sp2 _ _ (t1 _ _ (sp1 _ _ h))))),
       .mk' (t3 _ _ (sp3 _ _ (t2 _ _ (sp2 _ _ g1)))) ((((hy1.on sp2).on t2).on sp3).on t3) (map_noLs (fun _ => rfl) _) (by rw [List.length_map]; omega),
       .mk' (t3 _ _ (sp3 _ _ g2)) ((hy2.on sp3).on t3) (map_noLs (fun _ => rfl) _) (by rw [List.length_map]; omega),
       .mk' g3 hy3 (map_noLs (fun _ => rfl) _) (by rw [List.length_map]; omega)⟩
    have hb2 : ∀ d ∈ ys2.map blkD, ∃ x, d = blkD x := fun d hd => by obtain ⟨x, _, rfl⟩ := List.mem_map.mp hd; exact ⟨_, rfl⟩
    have hb3 : ∀ d ∈ ys3.map (fun x => blkD (x / 3)), ∃ x, d = blkD x := fun d hd => by obtain ⟨x, _, rfl⟩ := List.mem_map.mp hd; exact ⟨_, rfl⟩
    have hr1 : ∀ d ∈ ys1.map vouD, ∃ x, d = vouD x := fun d hd => by obtain ⟨x, _, rfl⟩ := List.mem_map.mp hd; exact ⟨_, rfl⟩
    have hq1 : (ys1.map vouD).length ≤ 15 := by rw [List.length_map]; omega
    have hq2 : (ys2.map blkD).length ≤ 15 := by rw [List.length_map]; omega
    have hq3 : (ys3.map fun x => blkD (x / 3)).length ≤ 15 := by rw [List.length_map]; omega
    exact ⟨A1, A2, A3, _, _, _, rfl, env, hb2, hb3, hr1, hq1, hq2, hq3⟩
  clear hy1 hy2 g1 g2 gp1 gp2 t1 t2 sp1 sp2 hD hD1 hD2 gr1 gr2 s2 hA1 hA2 hp1 hp2
  rintro σ' I3 ⟨A1, A2, A3, ds1, ds2, ds3, rfl, env, hb2, hb3, hr1, hq1, hq2, hq3⟩
  walk_at "rds"
  refine ⟨a, ns, 0, rfl, env.sm.seq hS, ?_⟩
  rw [hc]
  walk_at "rds"
  obtain ⟨xs1, e1, hx1⟩ := env.l1.ex
  refine ⟨⟨_, sq e1⟩, fun B1 hB1 => ?_⟩
  refine lc_list_dt (K := K) hB1 (sq e1) hx1 (by rw [hx1.length]; have := env.l1.ln; omega) (fun d => some (tagD "vouch" d)) (fun x e hx he => tag_noL env.l1.nl hx he) (fun x d' H7 hx s7 hdx R R0 hR hR0 => ?_) (fun J1 zs1 u1 f1 hz1 => ?_)
  · refine ⟨rfl, tyes ?_⟩
    walk_at "rds"
    intro t ht
    exact hR _ rfl _ _ (same_upd ht) (.tup (.inl upd_same) (.cons (.str _ (by decide)) (.cons (hdx.on (same_upd ht)) .nil)))
  rw [filterMap_some] at hz1
  have env := env.on u1
  have n1 := tag_noLs (z := "vouch") env.l1.nl
  have b1 : (ds1.map (tagD "vouch")).length ≤ 15 := by rw [List.length_map]; omega
  have ll : LD K J1 B1 (ds1.map (tagD "vouch")) 15 := .mk' f1 hz1 n1 b1
  walk_at "rds"
  obtain ⟨xs2, e2, hx2⟩ := env.l2.ex
  refine ⟨⟨_, sq e2⟩, fun B2 hB2 => ?_⟩
  refine lc_list_dt (K := K) hB2 (sq e2) hx2 (by rw [hx2.length]; have := env.l2.ln; omega) (fun d => some (tagD "vote" d)) (fun x e hx he => tag_noL env.l2.nl hx he) (fun x d' H7 hx s7 hdx R R0 hR hR0 => ?_) (fun J2 zs2 u2 f2 hz2 => ?_)
  · refine ⟨rfl, tyes ?_⟩
    walk_at "rds"
    intro t ht
    exact hR _ rfl _ _ (same_upd ht) (.tup (.inl upd_same) (.cons (.str _ (by decide)) (.cons (hdx.on (same_upd ht)) .nil)))
  rw [filterMap_some] at hz2
  have env := env.on u2
  have n2 := tag_noLs (z := "vote") env.l2.nl
  have b2 : (ds2.map (tagD "vote")).length ≤ 15 := by rw [List.length_map]; omega
  have ll := ll.on u2
  obtain ⟨ws1, fw1, hw1⟩ := ll.ex
  walk_at "rds"
  refine ⟨B1, B2, _, _, rfl, rfl, fw1, f2, sz1000 (by rw [hw1.length, hz2.length]; omega), fun C1 hC1 => ?_⟩
  have env := env.on (same_upd (o := .lst (ws1 ++ zs2)) hC1)
  have ll : LD K (upd J2 C1 (.lst (ws1 ++ zs2))) C1 (ds1.map (tagD "vouch") ++ ds2.map (tagD "vote")) 30 := .mk' upd_same ((hw1.app hz2).on (same_upd hC1)) (noLs_app n1 n2) (by rw [List.length_append]; omega)
  generalize upd J2 C1 (.lst (ws1 ++ zs2)) = J3 at env ll
  walk_at "rds"
  obtain ⟨xs4, e4, hx4⟩ := env.l3.ex
  refine ⟨⟨_, sq e4⟩, fun B4 hB4 => ?_⟩
  refine lc_list_dt (K := K) hB4 (sq e4) hx4 (by rw [hx4.length]; have := env.l3.ln; omega) (fun d => some (tagD "ready" d)) (fun x e hx he => tag_noL env.l3.nl hx he) (fun x d' H7 hx s7 hdx R R0 hR hR0 => ?_) (fun J4 zs4 u4 f4 hz4 => ?_)
  · refine ⟨rfl, tyes ?_⟩
    walk_at "rds"
    intro t ht
    exact hR _ rfl _ _ (same_upd ht) (.tup (.inl upd_same) (.cons (.str _ (by decide)) (.cons (hdx.on (same_upd ht)) .nil)))
  rw [filterMap_some] at hz4
  have env := env.on u4
  have n4 := tag_noLs (z := "ready") env.l3.nl
  have b4 : (ds3.map (tagD "ready")).length ≤ 15 := by rw [List.length_map]; omega
  have ll := ll.on u4
  obtain ⟨ws2, fw2, hw2⟩ := ll.ex
  have lln := ll.nl
  have llb := ll.ln
  walk_at "rds"
  refine ⟨C1, B4, _, _, rfl, rfl, fw2, f4, sz1000 (by rw [hw2.length, hz4.length]; omega), fun C2 hC2 => ?_⟩
  have env := env.on (same_upd (o := .lst (ws2 ++ zs4)) hC2)
  have ll : LD K (upd J4 C2 (.lst (ws2 ++ zs4))) C2 (ds1.map (tagD "vouch") ++ ds2.map (tagD "vote") ++ ds3.map (tagD "ready")) 45 := .mk' upd_same ((hw2.app hz4).on (same_upd hC2)) (noLs_app lln n4) (by rw [List.length_append]; omega)
  generalize upd J4 C2 (.lst (ws2 ++ zs4)) = J5 at env ll
  refine ⟨fun σ' H' => ∃ L, σ' = [some (.ref a), some (.int (c % 4)), some (.int (3 * (c % 4) + 1)), some (.int (c / 4 % (3 * (c % 4) + 1))), some (.ref g), some (.ref D), some (.ref A1), some (.ref A2), some (.ref A3), some (.int (c / 100 % 5)), some (.ref L), none, none, none, none, none, none, none, none, none, none] ∧ Env K C_Group H H' g A1 A2 A3 n ds1 ds2 ds3 ∧ LD K H' L (lettersD ds1 ds2 ds3 (c / 100 % 5)) 46, ?_, ?_⟩
  · walk_at "rds"
    intro t ht
    have env := env.on (same_upd (o := .tup [.str "claim", .int (c / 100 % 5)]) ht)
    have ll := ll.on (same_upd (o := .tup [.str "claim", .int (c / 100 % 5)]) ht)
    have hcl : Dt K (upd J5 t (.tup [.str "claim", .int (c / 100 % 5)])) none (.ref t) (tagD "claim" (.int (c / 100 % 5))) := .tup (.inl upd_same) (.cons (.str _ (by decide)) (.cons (.int _) .nil))
    generalize upd J5 t (.tup [V.str "claim", .int (c / 100 % 5)]) = J6 at env ll hcl
    walk_at "rds"
    intro C3 hC3
    have env := env.on (same_upd (o := .lst [.ref t]) hC3)
    have ll := ll.on (same_upd (o := .lst [.ref t]) hC3)
    have hcl := hcl.on (same_upd (o := .lst [.ref t]) hC3)
    have fC3 : upd J6 C3 (.lst [.ref t]) C3 = some (.lst [.ref t]) := upd_same
    generalize upd J6 C3 (.lst [V.ref t]) = J7 at env ll hcl fC3
    obtain ⟨ws3, fw3, hw3⟩ := ll.ex
    have lln := ll.nl
    have llb := ll.ln
    walk_at "rds"
    refine ⟨C2, C3, _, _, rfl, rfl, fw3, fC3, sz1000 (by rw [hw3.length]; show _ + 1 ≤ 100000; omega), fun L hL => ?_⟩
    have env := env.on (same_upd (o := .lst (ws3 ++ [.ref t])) hL)
    have ll : LD K (upd J7 L (.lst (ws3 ++ [.ref t]))) L (lettersD ds1 ds2 ds3 (c / 100 % 5)) 46 := .mk' upd_same ((hw3.snoc hcl).on (same_upd hL)) (noLs_app lln rfl) (by unfold lettersD; rw [List.length_append, List.length_singleton]; omega)
    generalize upd J7 L (.lst (ws3 ++ [V.ref t])) = J8 at env ll
    exact ⟨L, rfl, env, ll⟩
  rintro σ' J8 ⟨L, rfl, env, ll⟩
  have y1 : ∀ d ∈ ds1, Ly 3 d := fun d hd => by obtain ⟨x, rfl⟩ := hr1 d hd; exact (vouD_ly x).mono (by decide)
  have y2 : ∀ d ∈ ds2, Ly 3 d := fun d hd => by obtain ⟨x, rfl⟩ := hb2 d hd; exact blkD_ly x
  have y3 : ∀ d ∈ ds3, Ly 3 d := fun d hd => by obtain ⟨x, rfl⟩ := hb3 d hd; exact blkD_ly x
  have yl : ∀ d ∈ lettersD ds1 ds2 ds3 (c / 100 % 5), Ly 4 d := ly_app (ly_app (ly_app (tag_ly (by decide +kernel) y1) (tag_ly (by decide +kernel) y2)) (tag_ly (by decide +kernel) y3)) (ly_cons (ly_tup (k := 3) (ly_cons (ly_str (by decide +kernel)) (ly_cons (ly_int _) ly_nil))) ly_nil)
  generalize hls : lettersD ds1 ds2 ds3 (c / 100 % 5) = ls at ll yl
  clear hr hdx
  walk_at "rds"
  obtain ⟨xs1, e1, hx1⟩ := env.l1.ex
  refine ⟨A1, xs1, rfl, .inl (sq e1), fun P1 hP1 => ?_⟩
  have p1 : LD K (upd J8 P1 (.lst xs1)) P1 ds1 100 := .mk' upd_same (hx1.on (same_upd hP1)) env.l1.nl env.l1.ln
  have env := env.on (same_upd (o := .lst xs1) hP1)
  have ll := ll.on (same_upd (o := .lst xs1) hP1)
  generalize upd J8 P1 (.lst xs1) = J9 at env ll p1
  walk_at "rds"
  obtain ⟨xs2, e2, hx2⟩ := env.l2.ex
  refine ⟨A2, xs2, rfl, .inl (sq e2), fun P2 hP2 => ?_⟩
  have p2 : LD K (upd J9 P2 (.lst xs2)) P2 ds2 100 := .mk' upd_same (hx2.on (same_upd hP2)) env.l2.nl env.l2.ln
  have env := env.on (same_upd (o := .lst xs2) hP2)
  have ll := ll.on (same_upd (o := .lst xs2) hP2)
  have p1 := p1.on (same_upd (o := .lst xs2) hP2)
  generalize upd J9 P2 (.lst xs2) = J10 at env ll p1 p2
  walk_at "rds"
  obtain ⟨xs3, e3, hx3⟩ := env.l3.ex
  refine ⟨A3, xs3, rfl, .inl (sq e3), fun P3 hP3 => ?_⟩
  have p3 : LD K (upd J10 P3 (.lst xs3)) P3 ds3 100 := .mk' upd_same (hx3.on (same_upd hP3)) env.l3.nl env.l3.ln
  have env := env.on (same_upd (o := .lst xs3) hP3)
  have ll := ll.on (same_upd (o := .lst xs3) hP3)
  have p1 := p1.on (same_upd (o := .lst xs3) hP3)
  have p2 := p2.on (same_upd (o := .lst xs3) hP3)
  generalize upd J10 P3 (.lst xs3) = J11 at env ll p1 p2 p3
  walk_at "rds"
  intro PP hPP
  have env := env.on (same_upd (o := .lst [.ref P1, .ref P2, .ref P3]) hPP)
  have ll := ll.on (same_upd (o := .lst [.ref P1, .ref P2, .ref P3]) hPP)
  have p1 := p1.on (same_upd (o := .lst [.ref P1, .ref P2, .ref P3]) hPP)
  have p2 := p2.on (same_upd (o := .lst [.ref P1, .ref P2, .ref P3]) hPP)
  have p3 := p3.on (same_upd (o := .lst [.ref P1, .ref P2, .ref P3]) hPP)
  have gP : upd J11 PP (.lst [.ref P1, .ref P2, .ref P3]) PP = some (.lst [.ref P1, .ref P2, .ref P3]) := upd_same
  generalize upd J11 PP (.lst [V.ref P1, .ref P2, .ref P3]) = J12 at env ll p1 p2 p3 gP
  walk_at "rds"
  refine ⟨fun σ' H' => Same J12 H' ∧ σ' = [some (.ref a), some (.int (c % 4)), some (.int (3 * (c % 4) + 1)), some (.int (c / 4 % (3 * (c % 4) + 1))), some (.ref g), some (.ref D), some (.ref A1), some (.ref A2), some (.ref A3), some (.int (c / 100 % 5)), some (.ref L), some (.ref PP), none, none, none, none, none, none, none, none, none], ?_, ?_⟩
  · walk_at "rds"
    refine ⟨PP, _, 0, _, rfl, rfl, sq gP, atI_nat (j := 0) rfl, ?_⟩
    walk_at "rds"
    refine ⟨PP, _, 1, _, rfl, rfl, sq gP, atI_nat (j := 1) rfl, ?_⟩
    walk_at "rds"
    refine ⟨PP, _, 2, _, rfl, rfl, sq gP, atI_nat (j := 2) rfl, ?_⟩
    walk_at "rds"
    refine ⟨g, n, _, P1, P2, P3, ds1, ds2, ds3, _, rfl, env.gr, by omega, p1, p2, p3, fun H1 r1 xr1 sr1 _ gr1 hxr1 => ?_⟩
    walk_at "rds"
    have ll1 := ll.on sr1
    refine ⟨c / 4 % (3 * (c % 4) + 1), 3 * n + 1, L, ls, (by show [V.int (c / 4 % (3 * (c % 4) + 1)), V.int (3 * (c % 4) + 1), .ref L] = _; rw [hn]; rfl), by omega, ⟨ll1.ex, ll1.nl, by have := ll1.ln; omega⟩, fun H2 r2 xr2 sr2 _ gr2 hxr2 => ?_⟩
    rw [hls] at hxr1
    obtain ⟨sh, ev⟩ := shpL ((ly_lst (allD_ly (M := 3 * n + 1) (me := c / 4 % (3 * (c % 4) + 1)) yl)).mono (by decide : 6 ≤ 20))
    refine ⟨.list _, .list _, .lst (sq (sr2 _ _ gr1)) (DtAll.dp _ _ (hxr1.on sr2)), .lst (sq gr2) (DtAll.dp _ _ hxr2), sh, sh, ?_⟩
    rw [ev]
    walk_at "rds"
    exact ⟨sr1.trans sr2, rfl⟩
  rintro σ' H13 ⟨s13, rfl⟩
  have env := env.on s13
  have ll := ll.on s13
  have p1 := p1.on s13
  have p2 := p2.on s13
  have p3 := p3.on s13
  have gP := s13 _ _ gP
  refine ⟨fun σ' H' => Same H13 H' ∧ σ' = [some (.ref a), some (.int (c % 4)), some (.int (3 * (c % 4) + 1)), some (.int (c / 4 % (3 * (c % 4) + 1))), some (.ref g), some (.ref D), some (.ref A1), some (.ref A2), some (.ref A3), some (.int (c / 100 % 5)), some (.ref L), some (.ref PP), none, none, none, none, none, none, none, none, none], ?_, ?_⟩
  · walk_at "rds"
    intro t ht
    have dL : ∀ {H' : Hp} {b : Addr} {ds : List PyData}, LD K H' b ds 100 → Dt K H' none (.ref b) (.list ds) := fun l => by
      obtain ⟨xs, e, h⟩ := l.ex
      exact .lst trivial e h
    have q1 : Dt K (upd H13 t (.lst [.ref A1, .ref A2, .ref A3])) none (.ref t) (.list [.list ds1, .list ds2, .list ds3]) := .lst trivial upd_same (.cons (dL (env.l1.on (same_upd ht))) (.cons (dL (env.l2.on (same_upd ht))) (.cons (dL (env.l3.on (same_upd ht))) .nil)))
    have q2 : Dt K (upd H13 t (.lst [.ref A1, .ref A2, .ref A3])) none (.ref PP) (.list [.list ds1, .list ds2, .list ds3]) := .lst trivial ((same_upd ht) _ _ gP) (.cons (dL (p1.on (same_upd ht))) (.cons (dL (p2.on (same_upd ht))) (.cons (dL (p3.on (same_upd ht))) .nil)))
    obtain ⟨sh, ev⟩ := shpL ((ly_lst (ly_cons (ly_lst y1) (ly_cons (ly_lst y2) (ly_cons (ly_lst y3) ly_nil)))).mono (by decide : 5 ≤ 20))
    walk_at "rds"
    refine ⟨_, _, Dt.dp _ _ q2, Dt.dp _ _ q1, sh, sh, ?_⟩
    rw [ev]
    walk_at "rds"
    exact ⟨same_upd ht, rfl⟩
  rintro σ' H14 ⟨s14, rfl⟩
  have env := env.on s14
  have ll := ll.on s14
  clear p1 p2 p3 gP s13 s14
  refine ⟨fun σ' H' => Same H14 H' ∧ ∃ y12, σ' = [some (.ref a), some (.int (c % 4)), some (.int (3 * (c % 4) + 1)), some (.int (c / 4 % (3 * (c % 4) + 1))), some (.ref g), some (.ref D), some (.ref A1), some (.ref A2), some (.ref A3), some (.int (c / 100 % 5)), some (.ref L), some (.ref PP), y12, none, none, none, none, none, none, none, none], ?_, ?_⟩
  · walk_at "rds"
    obtain ⟨xl, el, hxl⟩ := ll.ex
    refine ⟨⟨_, sq el⟩, ?_⟩
    refine for_it (walk_list (K := K) (a := L) (xs := xl)) (Pv := fun i σ' H' => Same H14 H' ∧ ∃ y12, σ' = [some (.ref a), some (.int (c % 4)), some (.int (3 * (c % 4) + 1)), some (.int (c / 4 % (3 * (c % 4) + 1))), some (.ref g), some (.ref D), some (.ref A1), some (.ref A2), some (.ref A3), some (.int (c / 100 % 5)), some (.ref L), some (.ref PP), y12, none, none, none, none, none, none, none, none]) ⟨Same.refl _, none, rfl⟩ (fun i σ' H' _ h => sq (h.1 _ _ el)) (fun i x σ' Ha Hb hi hp' hy => ?_) (fun σ' Ha hp' => hp')
    obtain ⟨sa, y12, rfl⟩ := hp'
    obtain ⟨rfl, gx⟩ := hy
    obtain ⟨d, gd, hdx⟩ := hxl.get gx
    have hdx := hdx.on sa
    have nd : noL d = true := noLs_app.noLs_mem' ll.nl (List.mem_of_getElem? gd)
    have yd := yl d (List.mem_of_getElem? gd)
    walk_at "rds"
    refine ⟨g, n, _, x, d, rfl, env.gr.imp fun _ h => sa _ _ h, by omega, hdx, nd, fun H1 r1 xr1 sr1 _ gr1 hxr1 => ?_⟩
    have hdx := hdx.on sr1
    walk_at "rds"
    intro t ht
    have hdx := hdx.on (same_upd (o := .lst [x]) ht)
    have gt : upd H1 t (.lst [x]) t = some (.lst [x]) := upd_same
    have sr := sr1.trans (same_upd (o := .lst [x]) ht)
    have gr1 := (same_upd (o := .lst [x]) ht) _ _ gr1
    have hxr1 := hxr1.on (same_upd (o := .lst [x]) ht)
    generalize upd H1 t (.lst [x]) = H2 at hdx gt sr gr1 hxr1
    walk_at "rds"
    refine ⟨c / 4 % (3 * (c % 4) + 1), 3 * n + 1, t, [d], (by show [V.int (c / 4 % (3 * (c % 4) + 1)), V.int (3 * (c % 4) + 1), .ref t] = _; rw [hn]; rfl), by omega, .mk' gt (.cons hdx .nil) (by show (noL d && true) = true; rw [nd]; rfl) (by show 1 ≤ 301; decide), fun H3 r2 xr2 sr2 _ gr2 hxr2 => ?_⟩
    have e1 : allD (3 * n + 1) (c / 4 % (3 * (c % 4) + 1)) [d] = othersD (3 * n + 1) (c / 4 % (3 * (c % 4) + 1)) d := by unfold allD; rw [List.flatMap_cons, List.flatMap_nil, List.append_nil]
    rw [e1] at hxr2
    obtain ⟨sh, ev⟩ := shpL ((ly_lst (othersD_ly (M := 3 * n + 1) (me := c / 4 % (3 * (c % 4) + 1)) yd)).mono (by decide : 6 ≤ 20))
    refine ⟨.list _, .list _, .lst (sq (sr2 _ _ gr1)) (DtAll.dp _ _ (hxr1.on sr2)), .lst (sq gr2) (DtAll.dp _ _ hxr2), sh, sh, ?_⟩
    rw [ev]
    walk_at "rds"
    exact ⟨(sa.trans sr).trans sr2, _, rfl⟩
  rintro σ' H15 ⟨s15, y12, rfl⟩
  have env := env.on s15
  walk_at "rds"
  obtain ⟨xs2, e2, hx2⟩ := env.l2.ex
  obtain ⟨xs3, e3, hx3⟩ := env.l3.ex
  refine ⟨A2, A3, xs2, xs3, rfl, rfl, e2, e3, sz1000 (by rw [hx2.length, hx3.length]; omega), fun B hB => ?_⟩
  have bl : LD K (upd H15 B (.lst (xs2 ++ xs3))) B (ds2 ++ ds3) 100 := .mk' upd_same ((hx2.app hx3).on (same_upd hB)) (noLs_app env.l2.nl env.l3.nl) (by rw [List.length_append]; omega)
  have env := env.on (same_upd (o := .lst (xs2 ++ xs3)) hB)
  generalize upd H15 B (.lst (xs2 ++ xs3)) = H16 at env bl
  have hbb : ∀ d ∈ ds2 ++ ds3, ∃ x, d = blkD x := fun d hd => (List.mem_append.mp hd).elim (hb2 d) (hb3 d)
  have hbB : ∀ d ∈ ds2 ++ ds3, IsB d := fun d hd => by obtain ⟨x, rfl⟩ := hbb d hd; exact ⟨_, _, _, _, rfl⟩
  generalize ds2 ++ ds3 = bs at bl hbb hbB
  walk_at "rds"
  obtain ⟨xb, eb, hxb⟩ := bl.ex
  refine ⟨⟨_, sq eb⟩, fun G hG => ?_⟩
  refine lc_list_dt (K := K) hG (sq eb) hxb (by rw [hxb.length]; have := bl.ln; omega) (giveF (c / 4 % (3 * (c % 4) + 1)) (c / 100 % 5)) (fun x e hx he => give_noL (noLs_app.noLs_mem' bl.nl hx) he) (fun x d' H7 hx s7 hdx R R0 hR hR0 => ?_) (fun H17 zg s17 eg hzg => ?_)
  · obtain ⟨e, p, h, cs, rfl⟩ := hbB _ hx
    obtain ⟨b, x1, x2, x4, rfl, hbt⟩ := hdx.b4
    refine ⟨rfl, ?_⟩
    walk_at "rds"
    refine ⟨b, _, 2, _, rfl, rfl, hbt.sq, atI_nat (j := 2) rfl, ?_⟩
    walk_at "rds"
    by_cases hh : h > c / 100 % 5
    · refine ifT (decide_eq_true hh) ?_
      walk_at "rds"
      refine ⟨b, _, 2, _, rfl, rfl, hbt.sq, atI_nat (j := 2) rfl, ?_⟩
      walk_at "rds"
      intro t ht1
      walk_at "rds"
      intro t2 ht2
      have hdx := (hdx.on (same_upd (o := .tup [V.str "give", .int h, .ref b]) ht1)).on (same_upd (o := .tup [V.int (c / 4 % (3 * (c % 4) + 1)), .ref t]) ht2)
      refine hR _ (if_pos hh) _ _ ((same_upd ht1).trans (same_upd ht2)) (.tup (.inl upd_same) (.cons (.int _) (.cons (.tup (.inl ((same_upd ht2) _ _ upd_same)) (.cons (.str _ (by decide)) (.cons (.int _) (.cons hdx .nil)))) .nil)))
    · refine ifF (decide_eq_false hh) ?_
      exact hR0 (if_neg hh) _ (Same.refl _)
  have env := env.on s17
  have bl := bl.on s17
  have hyg : ∀ e ∈ bs.filterMap (giveF (c / 4 % (3 * (c % 4) + 1)) (c / 100 % 5)), Ly 5 e := fun e he => by
    obtain ⟨d, hd, hde⟩ := List.mem_filterMap.mp he
    obtain ⟨x, rfl⟩ := hbb d hd
    have yb := blkD_ly x
    have hde : (if 1 + x / 5 % 3 + 1 > c / 100 % 5 then some (PyData.tuple [.int (c / 4 % (3 * (c % 4) + 1)), .tuple [.str "give", .int (1 + x / 5 % 3 + 1), blkD x]]) else none) = some e := hde
    split at hde
    · cases hde
      exact ly_tup (ly_cons (ly_int _) (ly_cons (ly_tup (ly_cons (ly_str (by decide +kernel)) (ly_cons (ly_int _) (ly_cons yb ly_nil)))) ly_nil))
    · cases hde
  walk_at "rds"
  refine ⟨fun σ' H' => Same H17 H' ∧ σ' = [some (.ref a), some (.int (c % 4)), some (.int (3 * (c % 4) + 1)), some (.int (c / 4 % (3 * (c % 4) + 1))), some (.ref g), some (.ref D), some (.ref A1), some (.ref A2), some (.ref A3), some (.int (c / 100 % 5)), some (.ref L), some (.ref PP), y12, some (.ref B), some (.ref G), none, none, none, none, none, none], ?_, ?_⟩
  · walk_at "rds"
    refine ⟨B, bs, _, _, rfl, bl, hbB, fun H18 r xr s18 _ er hxr => ?_⟩
    obtain ⟨sh, ev⟩ := shpL ((ly_lst hyg).mono (by decide : 6 ≤ 20))
    walk_at "rds"
    refine ⟨.list _, .list _, .lst (sq er) (DtAll.dp _ _ hxr), .lst (sq (s18 _ _ eg)) (DtAll.dp _ _ (hzg.on s18)), sh, sh, ?_⟩
    rw [ev]
    walk_at "rds"
    exact ⟨s18, rfl⟩
  rintro σ' H18 ⟨s18, rfl⟩
  have env := env.on s18
  walk_at "rds"
  obtain ⟨xs1, e1, hx1⟩ := env.l1.ex
  refine ⟨⟨_, sq e1⟩, fun R1 hR1 => ?_⟩
  refine lc_list_dt (K := K) hR1 (sq e1) hx1 (by rw [hx1.length]; have := env.l1.ln; omega) rowF (fun x e hx he => by obtain ⟨x', rfl⟩ := hr1 _ hx; cases he; rfl) (fun x d' H7 hx s7 hdx R R0 hR hR0 => ?_) (fun H19 zr s19 er hzr => ?_)
  · obtain ⟨x', rfl⟩ := hr1 _ hx
    obtain ⟨b, x1, x2, x3, rfl, hbt, h1, h2, h3⟩ := Dt.three hdx
    cases h1; cases h2; cases h3
    refine ⟨rfl, tyes ?_⟩
    walk_at "rds"
    refine ⟨b, _, 0, _, rfl, rfl, hbt.sq, atI_nat (j := 0) rfl, ?_⟩
    walk_at "rds"
    refine ⟨b, _, 1, _, rfl, rfl, hbt.sq, atI_nat (j := 1) rfl, ?_⟩
    walk_at "rds"
    refine ⟨b, _, 2, _, rfl, rfl, hbt.sq, atI_nat (j := 2) rfl, ?_⟩
    walk_at "rds"
    intro t ht
    exact hR _ rfl _ _ (same_upd ht) (.tup (.inl upd_same) (.cons (.int _) (.cons (.int _) (.cons (.str _ (by decide)) .nil))))
  have env := env.on s19
  have hb5 : (ds1.filterMap rowF).length ≤ 15 := Nat.le_trans (List.length_filterMap_le _ _) hq1
  have hrr : ∀ d ∈ ds1.filterMap rowF, ∃ x, d = .tuple [.int (-1 - x % 9), .int (1 + x / 9 % 4), .str (Str.ofString "b" ++ Str.ofString "x")] := fun d hd => by
    obtain ⟨e, he, hde⟩ := List.mem_filterMap.mp hd
    obtain ⟨x, rfl⟩ := hr1 e he
    cases hde
    exact ⟨x, rfl⟩
  have rl : LD K H19 R1 (ds1.filterMap rowF) 100 := .mk' er hzr (noLs_all fun d hd => by obtain ⟨x, rfl⟩ := hrr d hd; rfl) (by omega)
  generalize ds1.filterMap rowF = rs at rl hrr hb5
  clear hzr er
  have hrR : ∀ d ∈ rs, IsR d := fun d hd => by obtain ⟨x, rfl⟩ := hrr d hd; exact ⟨_, _, _, rfl⟩
  walk_at "rds"
  obtain ⟨xr, er, hxr⟩ := rl.ex
  refine ⟨⟨_, sq er⟩, fun T1 hT1 => ?_⟩
  refine lc_list_dt (K := K) hT1 (sq er) hxr (by rw [hxr.length]; omega) ansF (fun x e hx he => ans_noL (noLs_app.noLs_mem' rl.nl hx) he) (fun x d' H7 hx s7 hdx R R0 hR hR0 => ?_) (fun H20 zt s20 et hzt => ?_)
  · obtain ⟨c', n', a', rfl⟩ := hrR _ hx
    obtain ⟨b, x1, x2, x3, rfl, hbt, h1, h2, h3⟩ := Dt.three hdx
    refine ⟨rfl, tyes ?_⟩
    walk_at "rds"
    refine ⟨b, _, 0, _, rfl, rfl, hbt.sq, atI_nat (j := 0) rfl, ?_⟩
    walk_at "rds"
    refine ⟨b, _, 1, _, rfl, rfl, hbt.sq, atI_nat (j := 1) rfl, ?_⟩
    walk_at "rds"
    refine ⟨b, _, 2, _, rfl, rfl, hbt.sq, atI_nat (j := 2) rfl, ?_⟩
    walk_at "rds"
    intro t ht1
    walk_at "rds"
    intro t2 ht2
    have s8 := (same_upd (o := .tup [V.str "answer", x2, x3]) ht1).trans (same_upd (o := .tup [x1, .ref t]) ht2)
    exact hR _ rfl _ _ s8 (.tup (.inl upd_same) (.cons (h1.on s8) (.cons (.tup (.inl ((same_upd ht2) _ _ upd_same)) (.cons (.str _ (by decide)) (.cons (h2.on s8) (.cons (h3.on s8) .nil)))) .nil)))
  have rl := rl.on s20
  have hyt : ∀ e ∈ rs.filterMap ansF, Ly 2 e := fun e he => by
    obtain ⟨d, hd, hde⟩ := List.mem_filterMap.mp he
    obtain ⟨x, rfl⟩ := hrr d hd
    cases hde
    exact ly_tup (ly_cons (ly_int _) (ly_cons (ly_tup (ly_cons (ly_str (by decide +kernel)) (ly_cons (ly_int _) (ly_cons (ly_str (by decide +kernel)) ly_nil)))) ly_nil))
  walk_at "rds"
  refine ⟨R1, rs, rfl, rl, hrR, fun H21 r xr s21 _ er hxr => ?_⟩
  obtain ⟨sh, ev⟩ := shpL ((ly_lst hyt).mono (by decide : 3 ≤ 20))
  walk_at "rds"
  refine ⟨.list _, .list _, .lst (sq er) (DtAll.dp _ _ hxr), .lst (sq (s21 _ _ et)) (DtAll.dp _ _ (hzt.on s21)), sh, sh, ?_⟩
  rw [ev]
  walk_at "rds"
  intro t ht
  walk_at "rds"
  refine ⟨t, [], rfl, .mk' upd_same .nil rfl (by decide), (fun _ m => nomatch m), fun H22 r2 xr2 s22 _ er2 hxr2 => ?_⟩
  walk_at "rds"
  walk_at "isi"
  walk_at "rds"
  intro t2 ht2
  walk_at "rds"
  refine ⟨t2, [], rfl, .mk' upd_same .nil rfl (by decide), (fun _ m => nomatch m), fun H23 r3 xr3 s23 _ er3 hxr3 => ?_⟩
  walk_at "rds"
  refine ⟨r3, xr3, rfl, .inl (sq er3), ?_⟩
  have hl := hxr3.length
  rw [show xr3.length = 0 from hl]
  walk_at "rds"
  exact q _
end

theorem fin {C_Group : Addr} {C_BadGroup : Addr} {P : Program} {w : World} {K : PySem.W.Frag} {mg : Str → Option Value} {fa : Addr} (hfa : mg "law" = some (.ref fa)) (T : Txt K mg C_Group C_BadGroup) :
    ∃ fd : FuncData, (∀ (s : Shared) (u : Value), BindsTo s fd ⟨[u], []⟩ [("script", u)]) ∧ ∀ base : Heap, K.In base → base.Ns mainGlobals mg → FnOk P w K mg base L2.CX0 5 fa fd ["script"] (spLaw K) := by
  obtain ⟨f, fd, F, hm, b⟩ := T.d_law.ex
  cases hfa.symm.trans hm
  refine ⟨fd, fun s u => ?_, fun base _ _ => ok_law F T⟩
  obtain ⟨oc, od, kV, doc, pm, an, cdv, ct, osl, rfl, l, _⟩ := F.ex
  exact .of_eq rfl

theorem all_mk {K : PySem.W.Frag} {h : Heap} {mg : Str → Option Value} (X : K.In h) (G : h.Ns mainGlobals mg)
    {f_to_others : Addr} {od_to_others an_to_others : Option Addr} {sl_to_others : Array (Option Value)} {oc_to_others kV_to_others dc_to_others pm_to_others cd_to_others ct_to_others : Value}
    {f_repeats : Addr} {od_repeats an_repeats : Option Addr} {sl_repeats : Array (Option Value)} {oc_repeats kV_repeats dc_repeats pm_repeats cd_repeats ct_repeats : Value}
    {f_gives : Addr} {od_gives an_gives : Option Addr} {sl_gives : Array (Option Value)} {oc_gives kV_gives dc_gives pm_gives cd_gives ct_gives : Value}
    {f_answers : Addr} {od_answers an_answers : Option Addr} {sl_answers : Array (Option Value)} {oc_answers kV_answers dc_answers pm_answers cd_answers ct_answers : Value}
    {f_is_integer : Addr} {od_is_integer an_is_integer : Option Addr} {sl_is_integer : Array (Option Value)} {oc_is_integer kV_is_integer dc_is_integer pm_is_integer cd_is_integer ct_is_integer : Value}
    {f__law_cell : Addr} {od__law_cell an__law_cell : Option Addr} {sl__law_cell : Array (Option Value)} {oc__law_cell kV__law_cell dc__law_cell pm__law_cell cd__law_cell ct__law_cell : Value}
    {f__law_shift : Addr} {od__law_shift an__law_shift : Option Addr} {sl__law_shift : Array (Option Value)} {oc__law_shift kV__law_shift dc__law_shift pm__law_shift cd__law_shift ct__law_shift : Value}
    {f__law_draws : Addr} {od__law_draws an__law_draws : Option Addr} {sl__law_draws : Array (Option Value)} {oc__law_draws kV__law_draws dc__law_draws pm__law_draws cd__law_draws ct__law_draws : Value}
    {f__law_block : Addr} {od__law_block an__law_block : Option Addr} {sl__law_block : Array (Option Value)} {oc__law_block kV__law_block dc__law_block pm__law_block cd__law_block ct__law_block : Value}
    {f__law_all : Addr} {od__law_all an__law_all : Option Addr} {sl__law_all : Array (Option Value)} {oc__law_all kV__law_all dc__law_all pm__law_all cd__law_all ct__law_all : Value}
    {f_law : Addr} {od_law an_law : Option Addr} {sl_law : Array (Option Value)} {oc_law kV_law dc_law pm_law cd_law ct_law : Value}
    {C_Group : Addr}
    {f_Group____init__ : Addr} {od_Group____init__ an_Group____init__ : Option Addr} {sl_Group____init__ : Array (Option Value)} {oc_Group____init__ kV_Group____init__ dc_Group____init__ pm_Group____init__ cd_Group____init__ ct_Group____init__ : Value}
    {f_Group__members : Addr} {od_Group__members an_Group__members : Option Addr} {sl_Group__members : Array (Option Value)} {oc_Group__members kV_Group__members dc_Group__members pm_Group__members cd_Group__members ct_Group__members : Value}
    {C_BadGroup : Addr}
    {t_MOST_FAULTS : Tok}
    (a_to_others : PySem.W.nsIn K mainGlobals "to_others" = some (some (.ref f_to_others)))
    (l_to_others : K.lookup f_to_others = some ⟨oc_to_others, od_to_others, .func (PySem.W.fnOf "to_others" "to_others" (defArgs s_to_others) (defBody s_to_others) (defScope s_to_others) .none kV_to_others dc_to_others pm_to_others an_to_others cd_to_others ct_to_others), sl_to_others⟩)
    (e_to_others : PySem.W.codeIn K cd_to_others "to_others" = true)
    (k_to_others : PySem.W.keepIn K (.ref f_to_others) = true)
    (a_repeats : PySem.W.nsIn K mainGlobals "repeats" = some (some (.ref f_repeats)))
    (l_repeats : K.lookup f_repeats = some ⟨oc_repeats, od_repeats, .func (PySem.W.fnOf "repeats" "repeats" (defArgs s_repeats) (defBody s_repeats) (defScope s_repeats) .none kV_repeats dc_repeats pm_repeats an_repeats cd_repeats ct_repeats), sl_repeats⟩)
    (e_repeats : PySem.W.codeIn K cd_repeats "repeats" = true)
    (k_repeats : PySem.W.keepIn K (.ref f_repeats) = true)
    (a_gives : PySem.W.nsIn K mainGlobals "gives" = some (some (.ref f_gives)))
    (l_gives : K.lookup f_gives = some ⟨oc_gives, od_gives, .func (PySem.W.fnOf "gives" "gives" (defArgs s_gives) (defBody s_gives) (defScope s_gives) .none kV_gives dc_gives pm_gives an_gives cd_gives ct_gives), sl_gives⟩)
    (e_gives : PySem.W.codeIn K cd_gives "gives" = true)
    (k_gives : PySem.W.keepIn K (.ref f_gives) = true)
    (a_answers : PySem.W.nsIn K mainGlobals "answers" = some (some (.ref f_answers)))
    (l_answers : K.lookup f_answers = some ⟨oc_answers, od_answers, .func (PySem.W.fnOf "answers" "answers" (defArgs s_answers) (defBody s_answers) (defScope s_answers) .none kV_answers dc_answers pm_answers an_answers cd_answers ct_answers), sl_answers⟩)
    (e_answers : PySem.W.codeIn K cd_answers "answers" = true)
    (k_answers : PySem.W.keepIn K (.ref f_answers) = true)
    (a_is_integer : PySem.W.nsIn K mainGlobals "is_integer" = some (some (.ref f_is_integer)))
    (l_is_integer : K.lookup f_is_integer = some ⟨oc_is_integer, od_is_integer, .func (PySem.W.fnOf "is_integer" "is_integer" (defArgs s_is_integer) (defBody s_is_integer) (defScope s_is_integer) .none kV_is_integer dc_is_integer pm_is_integer an_is_integer cd_is_integer ct_is_integer), sl_is_integer⟩)
    (e_is_integer : PySem.W.codeIn K cd_is_integer "is_integer" = true)
    (k_is_integer : PySem.W.keepIn K (.ref f_is_integer) = true)
    (a__law_cell : PySem.W.nsIn K mainGlobals "_law_cell" = some (some (.ref f__law_cell)))
    (l__law_cell : K.lookup f__law_cell = some ⟨oc__law_cell, od__law_cell, .func (PySem.W.fnOf "_law_cell" "_law_cell" (defArgs s__law_cell) (defBody s__law_cell) (defScope s__law_cell) .none kV__law_cell dc__law_cell pm__law_cell an__law_cell cd__law_cell ct__law_cell), sl__law_cell⟩)
    (e__law_cell : PySem.W.codeIn K cd__law_cell "_law_cell" = true)
    (k__law_cell : PySem.W.keepIn K (.ref f__law_cell) = true)
    (a__law_shift : PySem.W.nsIn K mainGlobals "_law_shift" = some (some (.ref f__law_shift)))
    (l__law_shift : K.lookup f__law_shift = some ⟨oc__law_shift, od__law_shift, .func (PySem.W.fnOf "_law_shift" "_law_shift" (defArgs s__law_shift) (defBody s__law_shift) (defScope s__law_shift) .none kV__law_shift dc__law_shift pm__law_shift an__law_shift cd__law_shift ct__law_shift), sl__law_shift⟩)
    (e__law_shift : PySem.W.codeIn K cd__law_shift "_law_shift" = true)
    (k__law_shift : PySem.W.keepIn K (.ref f__law_shift) = true)
    (a__law_draws : PySem.W.nsIn K mainGlobals "_law_draws" = some (some (.ref f__law_draws)))
    (l__law_draws : K.lookup f__law_draws = some ⟨oc__law_draws, od__law_draws, .func (PySem.W.fnOf "_law_draws" "_law_draws" (defArgs s__law_draws) (defBody s__law_draws) (defScope s__law_draws) .none kV__law_draws dc__law_draws pm__law_draws an__law_draws cd__law_draws ct__law_draws), sl__law_draws⟩)
    (e__law_draws : PySem.W.codeIn K cd__law_draws "_law_draws" = true)
    (k__law_draws : PySem.W.keepIn K (.ref f__law_draws) = true)
    (a__law_block : PySem.W.nsIn K mainGlobals "_law_block" = some (some (.ref f__law_block)))
    (l__law_block : K.lookup f__law_block = some ⟨oc__law_block, od__law_block, .func (PySem.W.fnOf "_law_block" "_law_block" (defArgs s__law_block) (defBody s__law_block) (defScope s__law_block) .none kV__law_block dc__law_block pm__law_block an__law_block cd__law_block ct__law_block), sl__law_block⟩)
    (e__law_block : PySem.W.codeIn K cd__law_block "_law_block" = true)
    (k__law_block : PySem.W.keepIn K (.ref f__law_block) = true)
    (a__law_all : PySem.W.nsIn K mainGlobals "_law_all" = some (some (.ref f__law_all)))
    (l__law_all : K.lookup f__law_all = some ⟨oc__law_all, od__law_all, .func (PySem.W.fnOf "_law_all" "_law_all" (defArgs s__law_all) (defBody s__law_all) (defScope s__law_all) .none kV__law_all dc__law_all pm__law_all an__law_all cd__law_all ct__law_all), sl__law_all⟩)
    (e__law_all : PySem.W.codeIn K cd__law_all "_law_all" = true)
    (k__law_all : PySem.W.keepIn K (.ref f__law_all) = true)
    (a_law : PySem.W.nsIn K mainGlobals "law" = some (some (.ref f_law)))
    (l_law : K.lookup f_law = some ⟨oc_law, od_law, .func (PySem.W.fnOf "law" "law" (defArgs s_law) (defBody s_law) (defScope s_law) .none kV_law dc_law pm_law an_law cd_law ct_law), sl_law⟩)
    (e_law : PySem.W.codeIn K cd_law "law" = true)
    (k_law : PySem.W.keepIn K (.ref f_law) = true)
    (ac_Group : PySem.W.nsIn K mainGlobals "Group" = some (some (.ref C_Group)))
    (pg_Group : PySem.W.plainGet K C_Group Str.empty = true)
    (hd_Group : PySem.W.hasDictIn K C_Group = true)
    (po_Group : PySem.W.plainOver K C_Group = true)
    (sa_Group : PySem.W.findIn K (.ref C_Group) "__setattr__" = some (some (.builtin "object.__setattr__")))
    (mk_Group : PySem.W.makesIn K C_Group = true)
    (kc_Group : PySem.W.keepIn K (.ref C_Group) = true)
    (na_Group_faults : PySem.W.findIn K (.ref C_Group) "faults" = some none)
    (na_Group_machines : PySem.W.findIn K (.ref C_Group) "machines" = some none)
    (na_Group_quorum : PySem.W.findIn K (.ref C_Group) "quorum" = some none)
    (na_Group_blocking : PySem.W.findIn K (.ref C_Group) "blocking" = some none)
    (a_Group____init__ : PySem.W.findIn K (.ref C_Group) "__init__" = some (some (.ref f_Group____init__)))
    (i_Group____init__ : PySem.W.isFn K (.ref f_Group____init__) = true)
    (l_Group____init__ : K.lookup f_Group____init__ = some ⟨oc_Group____init__, od_Group____init__, .func (PySem.W.fnOf "__init__" "Group.__init__" (defArgs s_Group____init__) (defBody s_Group____init__) (defScope s_Group____init__) .none kV_Group____init__ dc_Group____init__ pm_Group____init__ an_Group____init__ cd_Group____init__ ct_Group____init__), sl_Group____init__⟩)
    (e_Group____init__ : PySem.W.codeIn K cd_Group____init__ "Group.__init__" = true)
    (k_Group____init__ : PySem.W.keepIn K (.ref f_Group____init__) = true)
    (a_Group__members : PySem.W.findIn K (.ref C_Group) "members" = some (some (.ref f_Group__members)))
    (i_Group__members : PySem.W.isFn K (.ref f_Group__members) = true)
    (l_Group__members : K.lookup f_Group__members = some ⟨oc_Group__members, od_Group__members, .func (PySem.W.fnOf "members" "Group.members" (defArgs s_Group__members) (defBody s_Group__members) (defScope s_Group__members) .none kV_Group__members dc_Group__members pm_Group__members an_Group__members cd_Group__members ct_Group__members), sl_Group__members⟩)
    (e_Group__members : PySem.W.codeIn K cd_Group__members "Group.members" = true)
    (k_Group__members : PySem.W.keepIn K (.ref f_Group__members) = true)
    (xa_BadGroup : PySem.W.nsIn K mainGlobals "BadGroup" = some (some (.ref C_BadGroup)))
    (xe_BadGroup : PySem.W.excIn K C_BadGroup [.type "ValueError", .type "Exception", .type "BaseException", .type "object"] "ValueError.__new__" = true)
    (xk_BadGroup : PySem.W.keepIn K (.ref C_BadGroup) = true)
    (xb_BadGroup : PySem.W.subIn K (.ref C_BadGroup) (.type "BaseException") = some true)
    (xt_BadGroup : PySem.W.typeIn K (.ref C_BadGroup) = some (.type "type"))
    (xh_BadGroup : PySem.W.hasDictIn K C_BadGroup = true)
    (u_BadGroup_BadGroup : PySem.W.subIn K (.ref C_BadGroup) (.ref C_BadGroup) = some true)
    (a_MOST_FAULTS : PySem.W.nsIn K mainGlobals "MOST_FAULTS" = some (some (.int 10 t_MOST_FAULTS)))
    (z_abs : PySem.W.nsIn K mainGlobals "abs" = some none)
    (z_bool : PySem.W.nsIn K mainGlobals "bool" = some none)
    (z_int : PySem.W.nsIn K mainGlobals "int" = some none)
    (z_isinstance : PySem.W.nsIn K mainGlobals "isinstance" = some none)
    (z_len : PySem.W.nsIn K mainGlobals "len" = some none)
    (z_list : PySem.W.nsIn K mainGlobals "list" = some none)
    (z_range : PySem.W.nsIn K mainGlobals "range" = some none) : Txt K mg C_Group C_BadGroup :=
  { d_to_others := ⟨_, _, (fun_mk l_to_others e_to_others k_to_others), PySem.W.mg_of X G a_to_others, ((fun_mk (st := s_to_others) l_to_others e_to_others k_to_others).binds (ps := ["group", "me", "letter"]) fun _ _ _ _ _ _ us hl => match us, hl with | [_, _, _], _ => rfl)⟩,
    d_repeats := ⟨_, _, (fun_mk l_repeats e_repeats k_repeats), PySem.W.mg_of X G a_repeats, ((fun_mk (st := s_repeats) l_repeats e_repeats k_repeats).binds (ps := ["group", "me", "vouches", "votes", "readies", "height"]) fun _ _ _ _ _ _ us hl => match us, hl with | [_, _, _, _, _, _], _ => rfl)⟩,
    d_gives := ⟨_, _, (fun_mk l_gives e_gives k_gives), PySem.W.mg_of X G a_gives, ((fun_mk (st := s_gives) l_gives e_gives k_gives).binds (ps := ["receiver", "blocks", "height"]) fun _ _ _ _ _ _ us hl => match us, hl with | [_, _, _], _ => rfl)⟩,
    d_answers := ⟨_, _, (fun_mk l_answers e_answers k_answers), PySem.W.mg_of X G a_answers, ((fun_mk (st := s_answers) l_answers e_answers k_answers).binds (ps := ["rows"]) fun _ _ _ _ _ _ us hl => match us, hl with | [_], _ => rfl)⟩,
    d_is_integer := ⟨_, _, (fun_mk l_is_integer e_is_integer k_is_integer), PySem.W.mg_of X G a_is_integer, ((fun_mk (st := s_is_integer) l_is_integer e_is_integer k_is_integer).binds (ps := ["value", "least", "greatest"]) fun _ _ _ _ _ _ us hl => match us, hl with | [_, _, _], _ => rfl)⟩,
    d__law_cell := ⟨_, _, (fun_mk l__law_cell e__law_cell k__law_cell), PySem.W.mg_of X G a__law_cell, ((fun_mk (st := s__law_cell) l__law_cell e__law_cell k__law_cell).binds (ps := ["script", "k"]) fun _ _ _ _ _ _ us hl => match us, hl with | [_, _], _ => rfl)⟩,
    d__law_shift := ⟨_, _, (fun_mk l__law_shift e__law_shift k__law_shift), PySem.W.mg_of X G a__law_shift, ((fun_mk (st := s__law_shift) l__law_shift e__law_shift k__law_shift).binds (ps := ["number", "base", "places"]) fun _ _ _ _ _ _ us hl => match us, hl with | [_, _, _], _ => rfl)⟩,
    d__law_draws := ⟨_, _, (fun_mk l__law_draws e__law_draws k__law_draws), PySem.W.mg_of X G a__law_draws, ((fun_mk (st := s__law_draws) l__law_draws e__law_draws k__law_draws).binds (ps := ["script", "start", "most"]) fun _ _ _ _ _ _ us hl => match us, hl with | [_, _, _], _ => rfl)⟩,
    d__law_block := ⟨_, _, (fun_mk l__law_block e__law_block k__law_block), PySem.W.mg_of X G a__law_block, ((fun_mk (st := s__law_block) l__law_block e__law_block k__law_block).binds (ps := ["number"]) fun _ _ _ _ _ _ us hl => match us, hl with | [_], _ => rfl)⟩,
    d__law_all := ⟨_, _, (fun_mk l__law_all e__law_all k__law_all), PySem.W.mg_of X G a__law_all, ((fun_mk (st := s__law_all) l__law_all e__law_all k__law_all).binds (ps := ["me", "machines", "letters"]) fun _ _ _ _ _ _ us hl => match us, hl with | [_, _, _], _ => rfl)⟩,
    d_law := ⟨_, _, (fun_mk l_law e_law k_law), PySem.W.mg_of X G a_law, ((fun_mk (st := s_law) l_law e_law k_law).binds (ps := ["script"]) fun _ _ _ _ _ _ us hl => match us, hl with | [_], _ => rfl)⟩,
    cl_Group := ⟨pg_Group, hd_Group, po_Group, sa_Group⟩,
    g_Group := PySem.W.mg_of X G ac_Group,
    na_Group_faults := na_Group_faults,
    na_Group_machines := na_Group_machines,
    na_Group_quorum := na_Group_quorum,
    na_Group_blocking := na_Group_blocking,
    mk_Group := ⟨_, _, ⟨mk_Group, a_Group____init__, i_Group____init__, kc_Group⟩, (fun_mk l_Group____init__ e_Group____init__ k_Group____init__), ((fun_mk (st := s_Group____init__) l_Group____init__ e_Group____init__ k_Group____init__).binds (ps := ["self", "faults"]) fun _ _ _ _ _ _ us hl => match us, hl with | [_, _], _ => rfl)⟩,
    me_Group__members := ⟨_, _, ⟨a_Group__members, i_Group__members, k_Group__members⟩, (fun_mk l_Group__members e_Group__members k_Group__members), ((fun_mk (st := s_Group__members) l_Group__members e_Group__members k_Group__members).binds (ps := ["self"]) fun _ _ _ _ _ _ us hl => match us, hl with | [_], _ => rfl)⟩,
    x_BadGroup := ⟨xe_BadGroup, PySem.W.mg_of X G xa_BadGroup, xk_BadGroup, xb_BadGroup, xt_BadGroup, xh_BadGroup⟩,
    u_BadGroup_BadGroup := u_BadGroup_BadGroup,
    c_MOST_FAULTS := ⟨_, PySem.W.mg_of X G a_MOST_FAULTS, _, rfl⟩,
    z_abs := PySem.W.mg_none_of X G z_abs,
    z_bool := PySem.W.mg_none_of X G z_bool,
    z_int := PySem.W.mg_none_of X G z_int,
    z_isinstance := PySem.W.mg_none_of X G z_isinstance,
    z_len := PySem.W.mg_none_of X G z_len,
    z_list := PySem.W.mg_none_of X G z_list,
    z_range := PySem.W.mg_none_of X G z_range }
end Law
open PySem PySem.W PyProof.Rows
set_option maxRecDepth 100000 in
set_option maxHeartbeats 0 in
theorem PySem.Challenge.cw_oathledger_k58_outbox_lists_holds : PySem.Challenge.rw_oathledger_k58_outbox_lists.Holds := by
  w_on; o_law; k_head; (case hw => w_witness2)
  k_fill
  refine L2.walk_of (l := PySem.Challenge.rw_oathledger_k58_outbox_lists) (n := 63) (k := 5) (x := "script") (CX := fun _ => L2.CX0) (sp := fun w => Law.spLaw _) rfl (by decide) rfl ⟨rfl, by decide, by decide⟩ (fun w h Y => PySem.W.kIn_of Y) ?F (fun _ _ a ns hl _ hS => ⟨a, ns, rfl, hS, hl, fun _ => rfl⟩) (fun _ _ _ _ _ h => h)
  case F =>
    intro w mg fa h KX G hmg
    refine' Law.fin hmg (Law.all_mk KX G ?a_to_others ?l_to_others ?e_to_others ?k_to_others ?a_repeats ?l_repeats ?e_repeats ?k_repeats ?a_gives ?l_gives ?e_gives ?k_gives ?a_answers ?l_answers ?e_answers ?k_answers ?a_is_integer ?l_is_integer ?e_is_integer ?k_is_integer ?a__law_cell ?l__law_cell ?e__law_cell ?k__law_cell ?a__law_shift ?l__law_shift ?e__law_shift ?k__law_shift ?a__law_draws ?l__law_draws ?e__law_draws ?k__law_draws ?a__law_block ?l__law_block ?e__law_block ?k__law_block ?a__law_all ?l__law_all ?e__law_all ?k__law_all ?a_law ?l_law ?e_law ?k_law ?ac_Group ?pg_Group ?hd_Group ?po_Group ?sa_Group ?mk_Group ?kc_Group ?na_Group_faults ?na_Group_machines ?na_Group_quorum ?na_Group_blocking ?a_Group____init__ ?i_Group____init__ ?l_Group____init__ ?e_Group____init__ ?k_Group____init__ ?a_Group__members ?i_Group__members ?l_Group__members ?e_Group__members ?k_Group__members ?xa_BadGroup ?xe_BadGroup ?xk_BadGroup ?xb_BadGroup ?xt_BadGroup ?xh_BadGroup ?u_BadGroup_BadGroup ?a_MOST_FAULTS ?z_abs ?z_bool ?z_int ?z_isinstance ?z_len ?z_list ?z_range)
    (case a_to_others => k_is)
    (case l_to_others => k_is)
    (case e_to_others => k_is)
    (case k_to_others => k_is)
    (case a_repeats => k_is)
    (case l_repeats => k_is)
    (case e_repeats => k_is)
    (case k_repeats => k_is)
    (case a_gives => k_is)
    (case l_gives => k_is)
    (case e_gives => k_is)
    (case k_gives => k_is)
    (case a_answers => k_is)
    (case l_answers => k_is)
    (case e_answers => k_is)
    (case k_answers => k_is)
    (case a_is_integer => k_is)
    (case l_is_integer => k_is)
    (case e_is_integer => k_is)
    (case k_is_integer => k_is)
    (case a__law_cell => k_is)
    (case l__law_cell => k_is)
    (case e__law_cell => k_is)
    (case k__law_cell => k_is)
    (case a__law_shift => k_is)
    (case l__law_shift => k_is)
    (case e__law_shift => k_is)
    (case k__law_shift => k_is)
    (case a__law_draws => k_is)
    (case l__law_draws => k_is)
    (case e__law_draws => k_is)
    (case k__law_draws => k_is)
    (case a__law_block => k_is)
    (case l__law_block => k_is)
    (case e__law_block => k_is)
    (case k__law_block => k_is)
    (case a__law_all => k_is)
    (case l__law_all => k_is)
    (case e__law_all => k_is)
    (case k__law_all => k_is)
    (case a_law => k_is)
    (case l_law => k_is)
    (case e_law => k_is)
    (case k_law => k_is)
    (case ac_Group => k_is)
    (case pg_Group => k_is)
    (case hd_Group => k_is)
    (case po_Group => k_is)
    (case sa_Group => k_is)
    (case mk_Group => k_is)
    (case kc_Group => k_is)
    (case na_Group_faults => k_is)
    (case na_Group_machines => k_is)
    (case na_Group_quorum => k_is)
    (case na_Group_blocking => k_is)
    (case a_Group____init__ => k_is)
    (case i_Group____init__ => k_is)
    (case l_Group____init__ => k_is)
    (case e_Group____init__ => k_is)
    (case k_Group____init__ => k_is)
    (case a_Group__members => k_is)
    (case i_Group__members => k_is)
    (case l_Group__members => k_is)
    (case e_Group__members => k_is)
    (case k_Group__members => k_is)
    (case xa_BadGroup => k_is)
    (case xe_BadGroup => first | k_is | k_exc)
    (case xk_BadGroup => k_is)
    (case xb_BadGroup => k_is)
    (case xt_BadGroup => k_is)
    (case xh_BadGroup => k_is)
    (case u_BadGroup_BadGroup => k_is)
    (case a_MOST_FAULTS => k_is)
    (case z_abs => k_is)
    (case z_bool => k_is)
    (case z_int => k_is)
    (case z_isinstance => k_is)
    (case z_len => k_is)
    (case z_list => k_is)
    (case z_range => k_is)


