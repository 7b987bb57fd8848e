import PyProof.Rows.All
import Wide.All
import OpenK.AllK
import Wide.FinOn
import HandS.ForMost
import HandS.Walk
import HandS.Flow
import HandS.Codes
import HandS.IsInst
import HandS.Conv
import HandS.StrMore
import PyProof.MeetsSeq2
import PyProof.DictTable
import HandS.Wide
import HandS.TupAny
import HandS.More
import HandS.Dict
import HandS.ForExc
import HandS.ExcIs
import HandS.ExcField
import HandS.DeepEq
import HandS.TupLe
import HandS.Steps
import HandS.ExcInit
import HandS.SortRule
import HandS.RaiseMore
import HandS.Zip
import PySem.Challenge.RW_oathledger_k48_sessions
set_option Elab.async false
set_option linter.all false
set_option maxRecDepth 100000
set_option maxHeartbeats 4000000
namespace Law
open PySem PySem.Spec PyProof.Rows L2
open C8 (Cal Met Mak pe_c pe_mk pe_mt pe_mt0 pe_gc pss_cut tCut)
/-! ### a def of the top, by its name -/
structure DefOk (K : PySem.W.Frag) (mg : Str → Option Value) (x : Str) (st : Stmt) (ps : List Str) : Prop where
  ex : ∃ (f : Addr) (fd : FuncData), L2.Fun K x x st f fd ∧ mg x = some (.ref f) ∧ Binds K fd ps []
section
variable {P : Program} {w : World} {K : PySem.W.Frag} {mg : Str → Option Value} {base : Heap}
/-- a def's promise, by its body -/
theorem cal {x : Str} {st : Stmt} {N ps : List Str} {k : Nat} {sp : Sp} (D : DefOk K mg x st ps) (S : FnScope N ps (defScope st)) (len : ∀ vs H Q E, sp vs H Q E → vs.length = ps.length)
    (hbody : ∀ (f : Addr) (cdv : Value) (A : Around) (outer : List Env) (s : Shared) (H : Hp) (vs : List V) (Q : VK) (E : XK), Room k (A.deeper (envOfC x (defScope st) s.heap.objs.size f cdv)) → sp vs H Q E →
      ∃ t, PSs (cxOf L2.CX0 P w K mg base N x (defScope st) f cdv A outer s H E).nox (defBody st) t ∧ t { nx := fun _ H' => Q .non H', rt := Q } (start N vs) H) : Cal P w K mg base (k + 1) x sp [] := by
  obtain ⟨f, fd, F, hm, b⟩ := D.ex
  exact ⟨f, fd, ps, [], F.ok S len (fun cdv A outer s H vs Q E hr h => hbody f cdv A outer s H vs Q E hr h), hm, F.kp, b, .nil⟩
/-- a call without arguments -/
theorem pe_c0 {X : Cx} {k j : Nat} {x : Str} {sp : Sp} {dvs : List V} {p pos : Pos} (c : Cal X.prog X.w X.K X.mg X.base k x sp dvs) (hr : Room j X.A) (hk : k ≤ j) (hg : Gl X x)
    (hdb : (x == ("__debug__" : Str)) = false := by decide) : PE X (.Call (.Name x p) [] [] pos) (tCall sp dvs L2.E0 tNil) := by
  obtain ⟨f, fd, ps, ds, F, hm, kp, b, d⟩ := c.ex
  exact pe_call0 F (hr.mono hk) hg hm kp b d pass0 hdb
end
/-! ### small things -/
theorem same_upd {H : Hp} {p : Addr} {o : HO} (h : H p = none) : Same H (upd H p o) := fun b x e => by
  rw [upd_ne (ne_of_none e h)]
  exact e
theorem same_mut {H H' : Hp} {p : Addr} {o : HO} (s : Same H H') (h : H p = none) : Same H (upd H' p o) := fun b x e => by
  rw [upd_ne (ne_of_none e h)]
  exact s b x e
theorem sz1000 {n : Nat} (h : n ≤ 100000) : n ≤ sizeLine := Nat.le_trans h (by decide)
theorem sz1000' {n : Nat} (h : n < 100000) : n < sizeLine := Nat.lt_of_lt_of_le h (by decide)
theorem sz1000'' {n : Nat} (h : n ≤ 16777216) : n ≤ sizeLine := by rw [sizeLine_eq]; exact h
theorem sq {K : PySem.W.Frag} {H : Hp} {a : Addr} {xs : List V} (h : H a = some (.lst xs)) : SqL K H a xs := .inl (.inl h)
def spLaw (K : PySem.W.Frag) : Sp := fun vs H Q _ => ∃ (a : Addr) (ns : List Int), vs = [.ref a] ∧ SqL K H a (ns.map V.int) ∧ ns.length ≤ 63 ∧ ∀ H', Q (.bl true) H'
/-! ### the reading, step by step -/
local macro_rules | `(tactic| walk_at "sd") => `(tactic| first
  | omega
  | decide
  | assumption
  | (show _ ∨ _; exact Or.inl ⟨by omega, by omega⟩)
  | (show _ ∨ _; exact Or.inr ⟨by omega, by omega⟩)
  | (show _ ∧ _; exact ⟨by omega, by omega⟩)
  | (show _ ∧ _; exact ⟨by decide, by decide⟩)
  | exact sz1000 (by omega)
  | exact sz1000' (by omega))
local macro_rules | `(tactic| walk_at "sz") => `(tactic| first
  | exact sz1000 (Nat.le_of_ble_eq_true rfl)
  | exact sz1000 (by omega)
  | exact sz1000'' (by omega)
  | assumption)
/-- one step of a reading: a slot, an operator upon numbers, a call upon values -/
local macro_rules | `(tactic| walk_at "rd") => `(tactic| first
  | refine ⟨_, (rfl : (_ : List (Option V))[_]? = some (some _)), ?_⟩
  | refine ⟨_, _, (rfl : (_ : V) = _), (rfl : (_ : V) = _), (by walk_at "sd" : (_ : Prop)), ?_⟩
  | refine ⟨_, _, (rfl : (_ : V) = _), (rfl : (_ : V) = _), ?_⟩
  | refine ⟨_, (rfl : (_ : List V) = _), (by walk_at "sd" : (_ : Prop)), (by walk_at "sd" : (_ : Prop)), ?_⟩
  | refine ⟨_, (rfl : (_ : List V) = _), ?_⟩
  | refine ⟨_, (rfl : (_ : V) = _), ?_⟩
  | refine .inl ⟨_, (rfl : (_ : List V) = _), ?_⟩
  | refine ⟨⟨_, (rfl : (_ : V) = _)⟩, ?_⟩
  | refine ⟨(rfl : scal _ _ = true), ?_⟩
  | refine ⟨(rfl : V.non = V.non), ?_⟩
  | refine ⟨(by walk_at "sz" : (_ ≤ sizeLine)), ?_⟩)
local macro_rules | `(tactic| walk_at "rds") => `(tactic| repeat walk_at "rd")
theorem tyes {σ : L2.St} {H : Hp} {A B : Hp → Prop} (h : A H) : tYes σ H (fun b H3 => if b = true then A H3 else B H3) := by
  show (if true = true then A H else B H)
  rw [if_pos rfl]
  exact h
theorem sum_ones {ys : List Str} (h : ∀ y ∈ ys, y.length = 1) : (ys.map (fun x => x.length)).sum = ys.length := by
  induction ys with
  | nil => rfl
  | cons y r ih =>
    rw [List.map_cons, List.sum_cons, ih (fun z hz => h z (List.mem_cons_of_mem _ hz)), h y List.mem_cons_self, List.length_cons]
    omega
theorem chr_at {z : Str} {i : Int} (h0 : 0 ≤ i) (h1 : i < z.length) : ∃ c, atI z.cps.toList i = some c := by
  obtain ⟨j, rfl⟩ := Int.eq_ofNat_of_zero_le h0
  have hj : j < z.cps.toList.length := by
    rw [Array.length_toList]
    exact Int.ofNat_lt.mp h1
  exact ⟨z.cps.toList[j], atI_nat (List.getElem?_eq_getElem hj)⟩
/-- what an append to a tracked new list leaves -/
theorem lst_app {α : Type} {H : Hp} {D : Addr} {f : α → V} {ys : List α} {y : α} : upd H D (.lst (ys.map f ++ [f y])) D = some (.lst ((ys ++ [y]).map f)) := by
  rw [upd_same, List.map_append]
  rfl
theorem rg40 {n : Nat} (h : n ≤ 100000) : RgC 0 n 40 ((n + 39) / 40) := by
  have e : Builtin.Range.rangeSize 0 (n : Int) 40 = (((n + 39) / 40 : Nat) : Int) := by
    rw [rangeSize_pos (by decide) (by omega)]
    omega
  refine ⟨by decide, by decide, ?_, e⟩
  unfold Builtin.Range.small
  rw [e]
  unfold Builtin.Range.rangeFitsLong
  simp
  omega
theorem isi {K : PySem.W.Frag} {H : Hp} {x : V} {T1 T2 : String} {b : Bool} {Q : VK} (ty : TyX K H x (.type T1)) (e : kitB T1 T2 = some b) (q : Q (.bl b) H) : rIsi K [x, .ty T2] H Q :=
  ⟨x, .ty T2, _, _, b, rfl, .ty _, ty, kit_ty e, q⟩
theorem ifT {c : Bool} {A B : Prop} (hc : c = true) (h : A) : if c = true then A else B := by
  rw [if_pos hc]
  exact h
theorem ifF {c : Bool} {A B : Prop} (hc : c = false) (h : B) : if c = true then A else B := by
  rw [if_neg (by rw [hc]; decide)]
  exact h
local macro_rules | `(tactic| walk_at "isk") => `(tactic| first
  | exact .base (.int _) | exact .base (.str _) | exact .base (.bl _) | exact .base .non
  | exact .base (.lst (by assumption)) | exact .base (.tup (by assumption)) | exact .base (.dK (by assumption)))
/-- isinstance(x, T) with a built-in T; the object's fact stands in the context -/
local macro_rules | `(tactic| walk_at "isi") => `(tactic| first
  | refine ⟨_, .ty _, _, _, true, (rfl : (_ : List V) = _), .ty _, (by walk_at "isk"), kit_ty (by decide +kernel), ?_⟩
  | refine ⟨_, .ty _, _, _, false, (rfl : (_ : List V) = _), .ty _, (by walk_at "isk"), kit_ty (by decide +kernel), ?_⟩)
/-! ### classes of the top -/
structure MethOk (K : PySem.W.Frag) (C : Addr) (m qual : Str) (st : Stmt) (ps : List Str) : Prop where
  ex : ∃ (f : Addr) (fd : FuncData), Meth K C m f ∧ L2.Fun K m qual st f fd ∧ Binds K fd ps []
structure MakOk (K : PySem.W.Frag) (C : Addr) (qual : Str) (st : Stmt) (ps : List Str) : Prop where
  ex : ∃ (f : Addr) (fd : FuncData), Mk K C f ∧ L2.Fun K "__init__" qual st f fd ∧ Binds K fd ps []
section
variable {P : Program} {w : World} {K : PySem.W.Frag} {mg : Str → Option Value} {base : Heap}
theorem met {C : Addr} {m qual : Str} {st : Stmt} {N ps : List Str} {k : Nat} {sp : Sp} (c : Cls K C) (D : MethOk K C m qual st ps) (S : FnScope N ps (defScope st)) (len : ∀ vs H Q E, sp vs H Q E → vs.length = ps.length)
    (hbody : ∀ (f : Addr) (cdv : Value) (A : Around) (outer : List Env) (s : Shared) (H : Hp) (vs : List V) (Q : VK) (E : XK), Room k (A.deeper (envOfC qual (defScope st) s.heap.objs.size f cdv)) → sp vs H Q E →
      ∃ t, PSs (cxOf L2.CX0 P w K mg base N qual (defScope st) f cdv A outer s H E).nox (defBody st) t ∧ t { nx := fun _ H' => Q .non H', rt := Q } (start N vs) H) : Met P w K mg base (k + 1) C m sp [] := by
  obtain ⟨f, fd, M, F, b⟩ := D.ex
  exact ⟨f, fd, ps, [], c, M, F.ok S len (fun cdv A outer s H vs Q E hr h => hbody f cdv A outer s H vs Q E hr h), b, .nil⟩
theorem mak {C : Addr} {x qual : Str} {st : Stmt} {N ps : List Str} {k : Nat} {sp : Sp} (hm : mg x = some (.ref C)) (D : MakOk K C qual st ps) (S : FnScope N ps (defScope st)) (len : ∀ vs H Q E, sp vs H Q E → vs.length = ps.length)
    (hbody : ∀ (f : Addr) (cdv : Value) (A : Around) (outer : List Env) (s : Shared) (H : Hp) (vs : List V) (Q : VK) (E : XK), Room k (A.deeper (envOfC qual (defScope st) s.heap.objs.size f cdv)) → sp vs H Q E →
      ∃ t, PSs (cxOf L2.CX0 P w K mg base N qual (defScope st) f cdv A outer s H E).nox (defBody st) t ∧ t { nx := fun _ H' => Q .non H', rt := Q } (start N vs) H) : Mak P w K mg base (k + 1) x C sp [] := by
  obtain ⟨f, fd, M, F, b⟩ := D.ex
  exact ⟨f, fd, ps, [], M, F.ok S len (fun cdv A outer s H vs Q E hr h => hbody f cdv A outer s H vs Q E hr h), hm, b, .nil⟩
end
/-- a tuple of the top, in the written part -/
def KTup (K : PySem.W.Frag) (a : Addr) (xs : List V) : Prop := ∃ o its n, K.lookup a = some o ∧ o.cls = Value.type "tuple" ∧ o.data = Data.seq its n ∧ its.size ≤ sizeLine ∧ Vals xs its.toList
theorem pe_mk0 {X : Cx} {k j : Nat} {x : Str} {C : Addr} {sp : Sp} {dvs : List V} {p pos : Pos} (c : Mak X.prog X.w X.K X.mg X.base k x C sp dvs) (hr : Room j X.A) (hk : k + 1 ≤ j) (hg : Gl X x)
    (hdb : (x == ("__debug__" : Str)) = false := by decide) : PE X (.Call (.Name x p) [] [] pos) (tMake C sp dvs L2.E0 tNil) := by
  obtain ⟨f, fd, ps, ds, M, F, hm, b, d⟩ := c.ex
  exact pe_make0 M F (hr.mono hk) hg hm b d pass0 hdb
/-! ### rules whose written part is named K (a comprehension's context is another one) -/
section
variable {X : Cx} {K : PySem.W.Frag}
theorem kin (h : X.K = K := by rfl) : OpR X (compareOp .In) (rIn K false) := by subst h; exact op_in_seq
theorem knin (h : X.K = K := by rfl) : OpR X (compareOp .NotIn) (rIn K true) := by subst h; exact op_notIn_seq
theorem kixl (h : X.K = K := by rfl) : IxR X (rIxL K) := by subst h; exact ix_list
theorem kixt (h : X.K = K := by rfl) : IxR X (rIxT K) := by subst h; exact ix_tup
theorem ksll (h : X.K = K := by rfl) : SlR X (rSlL K) := by subst h; exact sl_list
theorem kisi (h : X.K = K := by rfl) : CallR X (.builtin "isinstance") (rIsi K) := by subst h; exact call_isi
theorem kfld {o : Expr} {f : Str} {pos : Pos} {ta : TE} (he : PE X o ta) (hb : attributeBase o f X.env (eval o X.env) = eval o X.env := by rfl) (h : X.K = K := by rfl) : PE X (.Attribute o f pos) (tFld K ta f) := by subst h; exact pe_fld he hb
def rLenK (K : PySem.W.Frag) : List V → Hp → VK → Prop := fun xs H Q => ∃ p ys, xs = [.ref p] ∧ (SqL K H p ys ∨ SqT K H p ys) ∧ Q (.int ys.length) H
theorem klen (h : X.K = K := by rfl) : CallR X (.builtin "len") (rLenK K) := by subst h; exact call_len_seq
end
theorem hu1 {k : Nat} {A : Around} (hr : Room k A) : A.units + 1 < cLine := by have := hr.units; omega
section
variable {X : Cx}
theorem kdin {d : Addr} (h : ∃ es n, KDict X.K X.w d es n) : OpR X (compareOp .In) (fun x y H Q => ∃ (z : Str) (r : Option Value), x = .str z ∧ y = .ref d ∧ PySem.W.nsIn X.K d z = some r ∧ Q (.bl r.isSome) H) := by
  obtain ⟨es, n, D⟩ := h
  exact op_in_kd D
theorem kdnin {d : Addr} (h : ∃ es n, KDict X.K X.w d es n) : OpR X (compareOp .NotIn) (fun x y H Q => ∃ (z : Str) (r : Option Value), x = .str z ∧ y = .ref d ∧ PySem.W.nsIn X.K d z = some r ∧ Q (.bl (!r.isSome)) H) := by
  obtain ⟨es, n, D⟩ := h
  exact op_notIn_kd D
end

/-! ### defs that raise own exceptions -/
theorem kit_own {K : PySem.W.Frag} {B C : Addr} (h1 : PySem.W.subIn K (.ref C) (.type "BaseException") = some true) (h2 : PySem.W.typeIn K (.ref C) = some (.type "type")) (h3 : PySem.W.subIn K (.ref B) (.ref C) = some true) : PySem.W.kitOne K (.ref B) (.ref C) = some true := by
  have h0 : (PySem.W.clsIn K C).isSome = true := by
    have h1 : PySem.W.mroIn K C (.type "BaseException") = some true := h1
    unfold PySem.W.mroIn at h1
    cases e : PySem.W.clsIn K C with
    | some _ => rfl
    | none => rw [e] at h1; cases h1
  unfold PySem.W.kitOne
  split
  · rfl
  · show (if ((PySem.W.clsIn K C).isSome && PySem.W.typeIn K (.ref C) == some (.type "type")) = true then PySem.W.subIn K (.ref B) (.ref C) else none) = some true
    rw [h0, h2, h3]
    rfl
section
variable {X : Cx}
/-- C() of an own exception class without an __init__ of its own -/
theorem pmk_own0 {x : Str} {C : Addr} {bmB : List Value} {B newId initId : String} {p pos : Pos} (F : ExcBaseFacts B newId initId bmB) (q : PySem.W.excIn X.K C bmB newId = true) (gC : X.mg x = some (.ref C)) (kC : PySem.W.keepIn X.K (.ref C) = true) (r : Raises X (.ref C)) (hg : Gl X x)
    (hdb : (x == ("__debug__" : Str)) = false := by decide) : PMk X (.Call (.Name x p) [] [] pos) (fun _ H Q => Q (.ref C) none H) := by
  intro pins s σ H Q I h
  refine wpAny_Call_Name_kw (ld_glob I hg gC ?_ hdb)
  refine PySem.W.callWith_K0 I.kIn kC ?_
  show wpAny _ _ (call (.ref C) []) _ _ _
  obtain ⟨bm, N, nm, qn, bs, hdct, sn, sub, ab, col, dd, k0, k1, k2, k3, k5, mN, hC, hN, hni, T⟩ := exc_obj I.kIn q
  refine wpAny_call_exc_subT F T hC hN hni (fun h' e hm => ?_) (Nat.zero_le _)
  exact mk_of I hm r h (I.hok.gone hm.new)
end
/-- an own exception class over ValueError -/
structure ExOk (K : PySem.W.Frag) (mg : Str → Option Value) (x : Str) (C : Addr) : Prop where
  ex : PySem.W.excIn K C [.type "ValueError", .type "Exception", .type "BaseException", .type "object"] "ValueError.__new__" = true
  g : mg x = some (.ref C)
  kp : PySem.W.keepIn K (.ref C) = true
  bp : PySem.W.subIn K (.ref C) (.type "BaseException") = some true
  tp : PySem.W.typeIn K (.ref C) = some (.type "type")
  hd : PySem.W.hasDictIn K C = true
theorem ExOk.exm {K : PySem.W.Frag} {mg : Str → Option Value} {x : Str} {C : Addr} {cls : Value} {b : Bool} (e : ExOk K mg x C) (h : PySem.W.subIn K cls (.ref C) = some b) : PySem.W.exmOne K cls (.ref C) = some b := PySem.W.exm_ref e.bp e.hd e.tp h
theorem pmk_ok {X : Cx} {x : Str} {C : Addr} {p pos : Pos} (e : ExOk X.K X.mg x C) (hg : Gl X x) (hdb : (x == ("__debug__" : Str)) = false := by decide) : PMk X (.Call (.Name x p) [] [] pos) (fun _ H Q => Q (.ref C) none H) :=
  pmk_own0 PySem.F.excBase_ValueError e.ex e.g e.kp (raises_own e.bp e.tp) hg hdb
/-! the promises of such defs -/
structure CalX (P : Program) (w : World) (K : PySem.W.Frag) (mg : Str → Option Value) (base : Heap) (k : Nat) (x : Str) (sp : Sp) : Prop where
  ex : ∃ (f : Addr) (fd : FuncData) (ps : List Str), FnOk P w K mg base (L2.CX P w) k f fd ps sp ∧ mg x = some (.ref f) ∧ PySem.W.keepIn K (.ref f) = true ∧ Binds K fd ps []
structure MetX (P : Program) (w : World) (K : PySem.W.Frag) (mg : Str → Option Value) (base : Heap) (k : Nat) (C : Addr) (m : Str) (sp : Sp) : Prop where
  ex : ∃ (f : Addr) (fd : FuncData) (ps : List Str), Cls K C ∧ Meth K C m f ∧ FnOk P w K mg base (L2.CX P w) k f fd ps sp ∧ Binds K fd ps []
structure MakX (P : Program) (w : World) (K : PySem.W.Frag) (mg : Str → Option Value) (base : Heap) (k : Nat) (x : Str) (C : Addr) (sp : Sp) : Prop where
  ex : ∃ (f : Addr) (fd : FuncData) (ps : List Str), Mk K C f ∧ FnOk P w K mg base (L2.CX P w) k f fd ps sp ∧ mg x = some (.ref C) ∧ Binds K fd ps []
section
variable {P : Program} {w : World} {K : PySem.W.Frag} {mg : Str → Option Value} {base : Heap}
theorem calX {x : Str} {st : Stmt} {N ps : List Str} {k : Nat} {sp : Sp} (D : DefOk K mg x st ps) (S : FnScope N ps (defScope st)) (len : ∀ vs H Q E, sp vs H Q E → vs.length = ps.length)
    (hbody : ∀ (f : Addr) (cdv : Value) (A : Around) (outer : List Env) (s : Shared) (H : Hp) (vs : List V) (Q : VK) (E : XK), Room k (A.deeper (envOfC x (defScope st) s.heap.objs.size f cdv)) → sp vs H Q E →
      ∃ t, PSs (cxOf (L2.CX P w) P w K mg base N x (defScope st) f cdv A outer s H E) (defBody st) t ∧ t { nx := fun _ H' => Q .non H', rt := Q } (start N vs) H) : CalX P w K mg base (k + 1) x sp := by
  obtain ⟨f, fd, F, hm, b⟩ := D.ex
  exact ⟨f, fd, ps, F.okX S len (fun cdv A outer s H vs Q E hr h => hbody f cdv A outer s H vs Q E hr h), hm, F.kp, b⟩
theorem metX {C : Addr} {m qual : Str} {st : Stmt} {N ps : List Str} {k : Nat} {sp : Sp} (c : Cls K C) (D : MethOk K C m qual st ps) (S : FnScope N ps (defScope st)) (len : ∀ vs H Q E, sp vs H Q E → vs.length = ps.length)
    (hbody : ∀ (f : Addr) (cdv : Value) (A : Around) (outer : List Env) (s : Shared) (H : Hp) (vs : List V) (Q : VK) (E : XK), Room k (A.deeper (envOfC qual (defScope st) s.heap.objs.size f cdv)) → sp vs H Q E →
      ∃ t, PSs (cxOf (L2.CX P w) P w K mg base N qual (defScope st) f cdv A outer s H E) (defBody st) t ∧ t { nx := fun _ H' => Q .non H', rt := Q } (start N vs) H) : MetX P w K mg base (k + 1) C m sp := by
  obtain ⟨f, fd, M, F, b⟩ := D.ex
  exact ⟨f, fd, ps, c, M, F.okX S len (fun cdv A outer s H vs Q E hr h => hbody f cdv A outer s H vs Q E hr h), b⟩
theorem makX {C : Addr} {x qual : Str} {st : Stmt} {N ps : List Str} {k : Nat} {sp : Sp} (hm : mg x = some (.ref C)) (D : MakOk K C qual st ps) (S : FnScope N ps (defScope st)) (len : ∀ vs H Q E, sp vs H Q E → vs.length = ps.length)
    (hbody : ∀ (f : Addr) (cdv : Value) (A : Around) (outer : List Env) (s : Shared) (H : Hp) (vs : List V) (Q : VK) (E : XK), Room k (A.deeper (envOfC qual (defScope st) s.heap.objs.size f cdv)) → sp vs H Q E →
      ∃ t, PSs (cxOf (L2.CX P w) P w K mg base N qual (defScope st) f cdv A outer s H E) (defBody st) t ∧ t { nx := fun _ H' => Q .non H', rt := Q } (start N vs) H) : MakX P w K mg base (k + 1) x C sp := by
  obtain ⟨f, fd, M, F, b⟩ := D.ex
  exact ⟨f, fd, ps, M, F.okX S len (fun cdv A outer s H vs Q E hr h => hbody f cdv A outer s H vs Q E hr h), hm, b⟩
end
/-! their calls: E tells at the slots what is wished of an error -/
section
variable {X : Cx} {k j : Nat} {C : Addr} {x m : Str} {sp : Sp} {p pos apos : Pos} {e o : Expr} {es : List Expr} {ta : TE} {t : TA} {E : L2.St → XK}
theorem pe_cX (c : CalX X.prog X.w X.K X.mg X.base k x sp) (hr : Room j X.A) (hk : k ≤ j) (hg : Gl X x) (hx : ∀ σ, PassesAt (L2.CX X.prog X.w) X σ (E σ)) (ha : PA X (e :: es) t)
    (hdb : (x == ("__debug__" : Str)) = false := by decide) (he : starEach (e :: es) X.env = (false, eval e X.env) :: starEach es X.env := by rfl) (hpl : (backTo pos (starEach es X.env)).any (·.1) = false := by rfl) :
    PE X (.Call (.Name x p) (e :: es) [] pos) (tCallS sp E t) := by
  obtain ⟨f, fd, ps, F, hm, kp, b⟩ := c.ex
  exact pe_callS F (hr.mono hk) hg hm kp b hx ha hdb he hpl
/-- where nothing is raised -/
theorem pe_cXn (c : CalX X.prog X.w X.K X.mg X.base k x sp) (hr : Room j X.A) (hk : k ≤ j) (hg : Gl X x) (ha : PA X (e :: es) t)
    (hdb : (x == ("__debug__" : Str)) = false := by decide) (he : starEach (e :: es) X.env = (false, eval e X.env) :: starEach es X.env := by rfl) (hpl : (backTo pos (starEach es X.env)).any (·.1) = false := by rfl) :
    PE X (.Call (.Name x p) (e :: es) [] pos) (tCall sp [] L2.E0 t) := by
  obtain ⟨f, fd, ps, F, hm, kp, b⟩ := c.ex
  exact pe_call F (hr.mono hk) hg hm kp b .nil passL ha hdb he hpl
def tMethX (C : Addr) (m : Str) (sp : Sp) (E : L2.St → XK) (ta : TE) (t : TA) : TE := fun σ H Q => ta σ H fun x H1 => ∃ a dx fs, x = .ref a ∧ H1 a = some (.ins C dx fs) ∧ fs.lookup m = none ∧ t σ H1 fun vs H2 => sp (.ref a :: vs) H2 Q (E σ)
theorem pe_mtX {pl : Sem Bool} (c : MetX X.prog X.w X.K X.mg X.base k C m sp) (hr : Room j X.A) (hk : k ≤ j) (hx : ∀ σ, PassesAt (L2.CX X.prog X.w) X σ (E σ)) (he : PE X o ta) (ha : PA X (e :: es) t)
    (hst : starEach (e :: es) X.env = (false, eval e X.env) :: starEach es X.env := by rfl) (hpl : (backTo pos (starEach es X.env)).any (·.1) = false := by rfl)
    (ht : eval (.Call (.Attribute o m apos) (e :: es) [] pos) X.env = (do
      let ov ← eval o X.env
      standAt apos.atName
      let (f, first) ← holding [ov] (getMethod ov m pl)
      callWith pos f first (backTo pos (starEach (e :: es) X.env)) (backToKw pos (keywordEach [] X.env))) := by rfl) :
    PE X (.Call (.Attribute o m apos) (e :: es) [] pos) (tMethX C m sp E ta t) := by
  obtain ⟨f, fd, ps, hc, hm, F, b⟩ := c.ex
  refine ⟨fun pins s σ H Q I h => ?_⟩
  refine PySem.W.methodCall_KW (pl := pl) (thn (he.run pins s σ H _ I h) fun u s1 ⟨x, H1, I1, rx, a, dx, fs, ex, ea, l, q⟩ => ?_) ht
  subst ex
  obtain rfl : u = Value.ref a := rx
  refine getmeth_ok I1 ea hc hm l ?_
  refine PySem.W.callWith_K (first := [.ref a]) (h₀ := X.base) I.ok.mod.kin hm.kp (thn (ha.run pos pins s1 σ H1 _ I1 q) fun us s2 ⟨vs, H2, I2, r, q2⟩ => ⟨I2.kIn, ?_⟩) hst hpl
  exact run_fnS (us := .ref a :: us) (vs := .ref a :: vs) F (hr.mono hk) b (hx σ) I2 (.cons rfl r) q2
theorem pe_mtX0 {pl : Sem Bool} (c : MetX X.prog X.w X.K X.mg X.base k C m sp) (hr : Room j X.A) (hk : k ≤ j) (hx : ∀ σ, PassesAt (L2.CX X.prog X.w) X σ (E σ)) (he : PE X o ta)
    (ht : eval (.Call (.Attribute o m apos) [] [] pos) X.env = (do
      let ov ← eval o X.env
      standAt apos.atName
      let (f, first) ← holding [ov] (getMethod ov m pl)
      callWith pos f first (backTo pos (starEach [] X.env)) (backToKw pos (keywordEach [] X.env))) := by rfl) :
    PE X (.Call (.Attribute o m apos) [] [] pos) (tMethX C m sp E ta tNil) := by
  obtain ⟨f, fd, ps, hc, hm, F, b⟩ := c.ex
  refine ⟨fun pins s σ H Q I h => ?_⟩
  refine PySem.W.methodCall_KW (pl := pl) (thn (he.run pins s σ H _ I h) fun u s1 ⟨x, H1, I1, rx, a, dx, fs, ex, ea, l, q⟩ => ?_) ht
  subst ex
  obtain rfl : u = Value.ref a := rx
  refine getmeth_ok I1 ea hc hm l ?_
  exact PySem.W.callWith_K0 (first := [.ref a]) I1.kIn hm.kp (run_fnS (us := [.ref a]) (vs := [.ref a]) F (hr.mono hk) b (hx σ) I1 (.cons rfl .nil) q)
def tMakeX (C : Addr) (sp : Sp) (E : L2.St → XK) (t : TA) : TE := fun σ H Q => t σ H fun vs H1 => ∀ x dx, H1 x = none → H1 dx = none → dx ≠ x → sp (.ref x :: vs) (upd (upd H1 dx (.own x)) x (.ins C dx [])) (fun v H2 => v = .non ∧ Q (.ref x) H2) (E σ)
theorem run_makeX {CX : CXT} {f : Addr} {fd : FuncData} {ps : List Str} {pins : List (Addr × Obj)} {σ : L2.St} {H : Hp} {s : Shared} {Q : VK} {us : List Value} {vs : List V} {Eσ : XK} (M : Mk X.K C f) (F : FnOk X.prog X.w X.K X.mg X.base CX k f fd ps sp) (hr : Room (k + 1) X.A) (hb : Binds X.K fd ps [])
    (hx : PassesAt CX X σ Eσ) (I : Inv X pins σ H s) (r : Vals vs us)
    (h : ∀ x dx, H x = none → H dx = none → dx ≠ x → sp (.ref x :: vs) (upd (upd H dx (.own x)) x (.ins C dx [])) (fun v H2 => v = .non ∧ Q (.ref x) H2) Eσ) :
    wpAny (model X.prog X.w) X.A (call (.ref C) us) (EP X pins σ Q) X.xe s := by
  have hq := h (s.heap.objs.size + 1) s.heap.objs.size (I.hok.fresh (Nat.le_succ _)) (I.hok.fresh (Nat.le_refl _)) (Nat.ne_of_lt (Nat.lt_succ_self _))
  have I2 := Inv.made (C := C) I
  have r2 : Vals (V.ref (s.heap.objs.size + 1) :: vs) (Value.ref (s.heap.objs.size + 1) :: us) := .cons rfl r
  have hl : (Value.ref (s.heap.objs.size + 1) :: us ++ ([] : List Value)).length = ps.length := by
    have e := r2.length
    rw [F.len _ _ _ _ hq] at e
    rw [List.append_nil]
    exact e.symm
  have hb' := hb _ (Value.ref (s.heap.objs.size + 1) :: us) I2.kIn hl
  rw [List.append_nil] at hb'
  refine wpAny_call (make_map (f := f) I.kIn M.makes M.init (beq_iff_eq.mp M.fn) (codeAny_mono (F.run _ X.stack _ _ ⟨Value.ref (s.heap.objs.size + 1) :: us, []⟩ (Value.ref (s.heap.objs.size + 1) :: us) _ _ Eσ (hr.make C us [])
    (I2.env0.make C us []) hb' r2 hq) fun r s' hq' => ?_))
  cases r with
  | error e => exact hx pins _ _ e s' I2 hq'
  | ok fl =>
    cases fl with
    | ret u =>
      obtain ⟨v, H', I3, rv, ev, q3⟩ := I2.after hq'
      subst ev
      exact ⟨rv, ⟨V.ref (s.heap.objs.size + 1), H', I3, rfl, q3⟩⟩
    | next => exact False.elim hq'
    | brk => exact False.elim hq'
    | cont => exact False.elim hq'
theorem pe_mkX (c : MakX X.prog X.w X.K X.mg X.base k x C sp) (hr : Room j X.A) (hk : k + 1 ≤ j) (hg : Gl X x) (hx : ∀ σ, PassesAt (L2.CX X.prog X.w) X σ (E σ)) (ha : PA X (e :: es) t)
    (hdb : (x == ("__debug__" : Str)) = false := by decide) (he : starEach (e :: es) X.env = (false, eval e X.env) :: starEach es X.env := by rfl) (hpl : (backTo pos (starEach es X.env)).any (·.1) = false := by rfl) :
    PE X (.Call (.Name x p) (e :: es) [] pos) (tMakeX C sp E t) := by
  obtain ⟨f, fd, ps, M, F, hm, b⟩ := c.ex
  refine ⟨fun pins s σ H Q I h => ?_⟩
  refine wpAny_Call_Name_kw (ld_glob I hg hm ?_ hdb)
  refine PySem.W.callWith_K (h₀ := X.base) I.ok.mod.kin M.kp (thn (ha.run pos pins s σ H _ I h) fun us s1 ⟨vs, H1, I1, r, q⟩ => ⟨I1.kIn, ?_⟩) he hpl
  exact run_makeX M F (hr.mono hk) b (hx σ) I1 r q
/-- where nothing is let out: for the calls above in a def without errors -/
theorem no_pass : ∀ σ : L2.St, PassesAt (L2.CX X.prog X.w) X σ ((fun _ => L2.E0) σ) := fun σ pins H s e s' I c => passL pins σ H s e s' I c
end

/-! ### own exceptions with an __init__ of their own -/
structure ExI (K : PySem.W.Frag) (mg : Str → Option Value) (x : Str) (C : Addr) : Prop where
  g : mg x = some (.ref C)
  ox : OexC K C
  xf : XfC K C
theorem ExI.exm {K : PySem.W.Frag} {mg : Str → Option Value} {x : Str} {C : Addr} {cls : Value} {b : Bool} (e : ExI K mg x C) (h : PySem.W.subIn K cls (.ref C) = some b) : PySem.W.exmOne K cls (.ref C) = some b := PySem.W.exm_ref e.ox.exC e.xf.hdC e.ox.tyC h
structure ExInit (K : PySem.W.Frag) (C : Addr) (qual : Str) (st : Stmt) (ps : List Str) : Prop where
  ex : ∃ (f : Addr) (fd : FuncData), PySem.W.findIn K (.ref C) "__init__" = some (some (.ref f)) ∧ PySem.W.typeIn K (.ref f) = some (.type "function") ∧ L2.Fun K "__init__" qual st f fd ∧ Binds K fd ps []
structure ExMk (P : Program) (w : World) (K : PySem.W.Frag) (mg : Str → Option Value) (base : Heap) (k : Nat) (x : Str) (C : Addr) (sp : Sp) : Prop where
  ex : ∃ (f : Addr) (fd : FuncData) (ps : List Str), OexC K C ∧ PySem.W.findIn K (.ref C) "__init__" = some (some (.ref f)) ∧ PySem.W.typeIn K (.ref f) = some (.type "function") ∧ FnOk P w K mg base L2.CX0 k f fd ps sp ∧ Binds K fd ps [] ∧ mg x = some (.ref C)
section
variable {P : Program} {w : World} {K : PySem.W.Frag} {mg : Str → Option Value} {base : Heap}
theorem exmk {C : Addr} {x qual : Str} {st : Stmt} {N ps : List Str} {k : Nat} {sp : Sp} (e : ExI K mg x C) (D : ExInit K C qual st ps) (S : FnScope N ps (defScope st)) (len : ∀ vs H Q E, sp vs H Q E → vs.length = ps.length)
    (hbody : ∀ (f : Addr) (cdv : Value) (A : Around) (outer : List Env) (s : Shared) (H : Hp) (vs : List V) (Q : VK) (E : XK), Room k (A.deeper (envOfC qual (defScope st) s.heap.objs.size f cdv)) → sp vs H Q E →
      ∃ t, PSs (cxOf L2.CX0 P w K mg base N qual (defScope st) f cdv A outer s H E).nox (defBody st) t ∧ t { nx := fun _ H' => Q .non H', rt := Q } (start N vs) H) : ExMk P w K mg base (k + 1) x C sp := by
  obtain ⟨f, fd, h1, h2, F, b⟩ := D.ex
  exact ⟨f, fd, ps, e.ox, h1, h2, F.ok S len (fun cdv A outer s H vs Q E hr h => hbody f cdv A outer s H vs Q E hr h), b, e.g⟩
end
theorem pmk_ei {X : Cx} {k j : Nat} {x : Str} {C : Addr} {sp : Sp} {ta : TA} {p pos : Pos} {e : Expr} {es : List Expr} (c : ExMk X.prog X.w X.K X.mg X.base k x C sp) (hr : Room j X.A) (hk : k + 1 ≤ j) (hg : Gl X x) (ha : PA X (e :: es) ta)
    (hdb : (x == ("__debug__" : Str)) = false := by decide) (he : starEach (e :: es) X.env = (false, eval e X.env) :: starEach es X.env := by rfl) (hpl : (backTo pos (starEach es X.env)).any (·.1) = false := by rfl) :
    PMk X (.Call (.Name x p) (e :: es) [] pos) (tMkO C sp [] ta) := by
  obtain ⟨f, fd, ps, T, iC, tI, F1, hb, hm⟩ := c.ex
  exact pmk_oex T iC tI F1 (hr.mono hk) hb .nil pass0 hg hm ha hdb he hpl
/-- what an __init__ of two fields leaves -/
def spInit2 (C : Addr) (f g : Str) : Sp := fun vs H Q _ => ∃ (a : Addr) (r s : V), vs = [.ref a, r, s] ∧ H a = some (exo a C none) ∧
  ∀ d, H d = none → d ≠ a → Q .non (upd (upd (upd H d (exd d [(f, r)])) a (exo a C (some d))) d (exd d [(g, s), (f, r)]))
/-- its use where it is raised -/
theorem mk_two {C : Addr} {f g : Str} {H1 : Hp} {Q : XK} {r s : V} (q : ∀ H' d, Same H1 H' → H1 d = none → H' d = some (.xd [(g, s), (f, r)]) → Q (.ref C) (some d) H') :
    ([r, s] : List V).length ≤ 1000 ∧ ∀ a, H1 a = none → spInit2 C f g (.ref a :: ([r, s] ++ [])) (upd H1 a (exo a C none)) (fun v H2 => v = .non ∧ ∃ (d : Addr) (fs : List (Str × V)), H2 a = some (exo a C (some d)) ∧ H2 d = some (exd d fs) ∧ H1 d = none ∧ Q (.ref C) (some d) (upd (del H2 a) d (.xd fs))) (fun _ _ _ => False) := by
  refine ⟨by show 2 ≤ 1000; decide, fun a ha => ⟨a, r, s, rfl, upd_same, fun d hd hne => ⟨rfl, d, [(g, s), (f, r)], ?_, upd_same, ?_, q _ d ?_ ?_ upd_same⟩⟩⟩
  · rw [upd_ne hne.symm, upd_same]
  · rw [upd_ne hne] at hd; exact hd
  · intro b o e
    have hb : b ≠ d := fun z => by rw [z] at e; rw [upd_ne hne] at hd; rw [hd] at e; cases e
    have hba : b ≠ a := fun z => by rw [z, ha] at e; cases e
    rw [upd_ne hb, del_ne hba, upd_ne hb, upd_ne hba, upd_ne hb, upd_ne hba]
    exact e
  · rw [upd_ne hne] at hd; exact hd

def topS (i : Nat) : Stmt := PySem.Challenge.pw_oathledger_k48_sessions.main.body.getD i (.Pass ⟨0, 0, 0, 0⟩)
abbrev s_BadCommand____init__ : Stmt := inClass (topS 2) 0
theorem sc_BadCommand____init__ : FnScope ["self", "reason", "statement"] ["self", "reason", "statement"] (defScope s_BadCommand____init__) := ⟨rfl, rfl, rfl, by decide +kernel, rfl, by decide +kernel, by decide +kernel⟩
abbrev s_Sessions____init__ : Stmt := inClass (topS 4) 0
theorem sc_Sessions____init__ : FnScope ["self"] ["self"] (defScope s_Sessions____init__) := ⟨rfl, rfl, rfl, by decide +kernel, rfl, by decide +kernel, by decide +kernel⟩
abbrev s_Sessions__last : Stmt := inClass (topS 4) 1
theorem sc_Sessions__last : FnScope ["self", "client"] ["self", "client"] (defScope s_Sessions__last) := ⟨rfl, rfl, rfl, by decide +kernel, rfl, by decide +kernel, by decide +kernel⟩
abbrev s_Sessions__answer : Stmt := inClass (topS 4) 2
theorem sc_Sessions__answer : FnScope ["self", "client"] ["self", "client"] (defScope s_Sessions__answer) := ⟨rfl, rfl, rfl, by decide +kernel, rfl, by decide +kernel, by decide +kernel⟩
abbrev s_Sessions__remember : Stmt := inClass (topS 4) 3
theorem sc_Sessions__remember : FnScope ["self", "client", "number", "answer"] ["self", "client", "number", "answer"] (defScope s_Sessions__remember) := ⟨rfl, rfl, rfl, by decide +kernel, rfl, by decide +kernel, by decide +kernel⟩
abbrev s_Sessions__rows : Stmt := inClass (topS 4) 4
theorem sc_Sessions__rows : FnScope ["self", "client"] ["self"] (defScope s_Sessions__rows) := ⟨rfl, rfl, rfl, by decide +kernel, rfl, by decide +kernel, by decide +kernel⟩
abbrev s_Sessions__numbers : Stmt := inClass (topS 4) 5
theorem sc_Sessions__numbers : FnScope ["self"] ["self"] (defScope s_Sessions__numbers) := ⟨rfl, rfl, rfl, by decide +kernel, rfl, by decide +kernel, by decide +kernel⟩
abbrev s_Sessions__clone : Stmt := inClass (topS 4) 6
theorem sc_Sessions__clone : FnScope ["self", "sessions"] ["self"] (defScope s_Sessions__clone) := ⟨rfl, rfl, rfl, by decide +kernel, rfl, by decide +kernel, by decide +kernel⟩
abbrev s__law_rich : Stmt := topS 6
theorem sc__law_rich : FnScope ["cell", "k", "mixed"] ["cell", "k"] (defScope s__law_rich) := ⟨rfl, rfl, rfl, by decide +kernel, rfl, by decide +kernel, by decide +kernel⟩
abbrev s__law_call : Stmt := topS 7
theorem sc__law_call : FnScope ["sessions", "client", "number", "answer", "e"] ["sessions", "client", "number", "answer"] (defScope s__law_call) := ⟨rfl, rfl, rfl, by decide +kernel, rfl, by decide +kernel, by decide +kernel⟩
abbrev s__law_same : Stmt := topS 8
theorem sc__law_same : FnScope ["sessions", "model", "rows", "numbers", "client", "number", "answer"] ["sessions", "model"] (defScope s__law_same) := ⟨rfl, rfl, rfl, by decide +kernel, rfl, by decide +kernel, by decide +kernel⟩
abbrev s_law : Stmt := topS 9
theorem sc_law : FnScope ["script", "sessions", "model", "copied", "kept", "k", "rich", "client", "last", "number", "answer", "due"] ["script"] (defScope s_law) := ⟨rfl, rfl, rfl, by decide +kernel, rfl, by decide +kernel, by decide +kernel⟩
structure Txt (K : PySem.W.Frag) (mg : Str → Option Value) (C_Sessions : Addr) (C_BadCommand : Addr) : Prop where
  d__law_rich : DefOk K mg "_law_rich" s__law_rich ["cell", "k"]
  d__law_call : DefOk K mg "_law_call" s__law_call ["sessions", "client", "number", "answer"]
  d__law_same : DefOk K mg "_law_same" s__law_same ["sessions", "model"]
  d_law : DefOk K mg "law" s_law ["script"]
  cl_Sessions : Cls K C_Sessions
  g_Sessions : mg "Sessions" = some (.ref C_Sessions)
  na_Sessions__numbers : NoAttr K C_Sessions "_numbers"
  na_Sessions__answers : NoAttr K C_Sessions "_answers"
  mk_Sessions : MakOk K C_Sessions "Sessions.__init__" s_Sessions____init__ ["self"]
  me_Sessions__last : MethOk K C_Sessions "last" "Sessions.last" s_Sessions__last ["self", "client"]
  me_Sessions__answer : MethOk K C_Sessions "answer" "Sessions.answer" s_Sessions__answer ["self", "client"]
  me_Sessions__remember : MethOk K C_Sessions "remember" "Sessions.remember" s_Sessions__remember ["self", "client", "number", "answer"]
  me_Sessions__rows : MethOk K C_Sessions "rows" "Sessions.rows" s_Sessions__rows ["self"]
  me_Sessions__numbers : MethOk K C_Sessions "numbers" "Sessions.numbers" s_Sessions__numbers ["self"]
  me_Sessions__clone : MethOk K C_Sessions "clone" "Sessions.clone" s_Sessions__clone ["self"]
  x_BadCommand : ExI K mg "BadCommand" C_BadCommand
  xn_BadCommand_reason : PySem.W.findIn K (.ref C_BadCommand) "reason" = some none
  xn_BadCommand_statement : PySem.W.findIn K (.ref C_BadCommand) "statement" = some none
  ei_BadCommand : ExInit K C_BadCommand "BadCommand.__init__" s_BadCommand____init__ ["self", "reason", "statement"]
  u_BadCommand_BadCommand : PySem.W.subIn K (.ref C_BadCommand) (.ref C_BadCommand) = some true
  z_dict : mg "dict" = none
  z_int : mg "int" = none
  z_isinstance : mg "isinstance" = none
  z_len : mg "len" = none
  z_max : mg "max" = none
  z_min : mg "min" = none
  z_range : mg "range" = none
  z_sorted : mg "sorted" = none
set_option pp.maxSteps 150
/-! ### the draws of a script -/
def Dr (H : Hp) (D A : Addr) : Prop := D ≠ A ∧ ∃ (ds : List Int) (n : Nat), H D = some (.lst (ds.map V.int)) ∧ H A = some (.lst [.int n]) ∧ (∀ d ∈ ds, 0 ≤ d ∧ d < 1000) ∧ ds.length ≤ 2520
/-- all that was tracked but A is as it was -/
def Mod (A : Addr) (H H' : Hp) : Prop := ∀ b o, b ≠ A → H b = some o → H' b = some o
theorem Mod.refl {A : Addr} {H : Hp} : Mod A H H := fun _ _ _ h => h
theorem Mod.trans {A : Addr} {H H1 H2 : Hp} (a : Mod A H H1) (b : Mod A H1 H2) : Mod A H H2 := fun c o n h => b c o n (a c o n h)
theorem Same.mod {A : Addr} {H H' : Hp} (s : Same H H') : Mod A H H' := fun b o _ h => s b o h
theorem Mod.new {A p : Addr} {o : HO} {H H' : Hp} (s : Mod A H H') (h : H' p = none) : Mod A H (upd H' p o) := fun b u n e => by
  rw [upd_ne (ne_of_none (s b u n e) h)]
  exact s b u n e
theorem Dr.new {D A p : Addr} {o : HO} {H : Hp} (d : Dr H D A) (h : H p = none) : Dr (upd H p o) D A := by
  obtain ⟨ne, ds, n, h1, h2, h3⟩ := d
  exact ⟨ne, ds, n, by rw [upd_ne (ne_of_none h1 h)]; exact h1, by rw [upd_ne (ne_of_none h2 h)]; exact h2, h3⟩
theorem Dr.same {D A : Addr} {H H' : Hp} (d : Dr H D A) (s : Same H H') : Dr H' D A := by
  obtain ⟨ne, ds, n, h1, h2, h3⟩ := d
  exact ⟨ne, ds, n, s _ _ h1, s _ _ h2, h3⟩
/-- an object that is neither D nor A is changed -/
theorem Dr.put {D A p : Addr} {o : HO} {H : Hp} (d : Dr H D A) (h1 : p ≠ D) (h2 : p ≠ A) : Dr (upd H p o) D A := by
  obtain ⟨ne, ds, n, e1, e2, h3⟩ := d
  exact ⟨ne, ds, n, by rw [upd_ne h1.symm]; exact e1, by rw [upd_ne h2.symm]; exact e2, h3⟩
theorem Dr.freshA {D A p : Addr} {H : Hp} (d : Dr H D A) (h : H p = none) : p ≠ A := by
  obtain ⟨_, _, _, _, e, _⟩ := d
  exact (ne_of_none e h).symm
theorem Dr.freshD {D A p : Addr} {H : Hp} (d : Dr H D A) (h : H p = none) : p ≠ D := by
  obtain ⟨_, _, _, e, _⟩ := d
  exact (ne_of_none e h).symm
theorem Mod.free {A p : Addr} {H H' : Hp} (s : Mod A H H') (d : ∃ o, H' A = some o) (h : H' p = none) : H p = none := by
  cases e : H p with
  | none => rfl
  | some o =>
    by_cases hp : p = A
    · subst hp
      obtain ⟨o', e'⟩ := d
      rw [e'] at h; cases h
    · rw [s p o hp e] at h; cases h
theorem Dr.A_in {D A : Addr} {H : Hp} (d : Dr H D A) : ∃ o, H A = some o := by
  obtain ⟨_, _, _, _, e, _⟩ := d
  exact ⟨_, e⟩
theorem rng_app {ds : List Int} {x : Int} (h : ∀ d ∈ ds, 0 ≤ d ∧ d < 1000) (h0 : 0 ≤ x) (h1 : x < 1000) : ∀ d ∈ ds ++ [x], 0 ≤ d ∧ d < 1000 := fun d hd => by
  rcases List.mem_append.mp hd with hd | hd
  · exact h d hd
  · rw [List.mem_singleton.mp hd]; exact ⟨h0, h1⟩

/-! ### drawn numbers and strings -/
def prC (c : Nat) : Bool := decide (32 ≤ c) && decide (c ≤ 126) && decide (c ≠ 37)
def isPr (z : Str) : Bool := z.cps.toList.all prC
theorem app_tl (a b : Str) : (a ++ b).cps.toList = a.cps.toList ++ b.cps.toList := by
  show (a.cps ++ b.cps).toList = _
  rw [Array.toList_append]
theorem len_tl (z : Str) : z.cps.toList.length = z.length := Array.length_toList
theorem isPr_app (a b : Str) : isPr (a ++ b) = (isPr a && isPr b) := by
  unfold isPr
  rw [app_tl, List.all_append]

/-! ### values as data: what stands at them does not change -/
def TupAt (K : PySem.W.Frag) (H : Hp) (a : Addr) (xs : List V) : Prop := H a = some (.tup xs) ∨ KTup K a xs
section
variable {K : PySem.W.Frag}
theorem TupAt.sq {H : Hp} {a : Addr} {xs : List V} (h : TupAt K H a xs) : SqT K H a xs := h.elim SqT.of .inr
theorem TupAt.ty {H : Hp} {a : Addr} {xs : List V} (h : TupAt K H a xs) : TyX K H (.ref a) (.type "tuple") := h.elim (fun h => .base (.tup h)) (fun ⟨_, _, _, h1, h2, _⟩ => .kTuple h1 h2)
theorem TupAt.same {H H' : Hp} {a : Addr} {xs : List V} (h : TupAt K H a xs) (s : Same H H') : TupAt K H' a xs := h.imp (s _ _) id
/-- none of those at A (none: no matter) -/
def NeA (A : Option Addr) (a : Addr) : Prop := match A with | some b => a ≠ b | none => True
mutual
/-- v is the data d; the lists in it are none of those at A -/
inductive Dt (K : PySem.W.Frag) (H : Hp) (A : Option Addr) : V → PyData → Prop
  | non : Dt K H A .non .none
  | bl (b : Bool) : Dt K H A (.bl b) (.bool b)
  | int (i : Int) : Dt K H A (.int i) (.int i)
  | str (z : Str) (h : z.length ≤ 1000000) : Dt K H A (.str z) (.str z)
  | lst {a : Addr} {xs : List V} {ds : List PyData} : NeA A a → H a = some (.lst xs) → DtAll K H A xs ds → Dt K H A (.ref a) (.list ds)
  | tup {a : Addr} {xs : List V} {ds : List PyData} : TupAt K H a xs → DtAll K H A xs ds → Dt K H A (.ref a) (.tuple ds)
inductive DtAll (K : PySem.W.Frag) (H : Hp) (A : Option Addr) : List V → List PyData → Prop
  | nil : DtAll K H A [] []
  | cons {v : V} {vs : List V} {d : PyData} {ds : List PyData} : Dt K H A v d → DtAll K H A vs ds → DtAll K H A (v :: vs) (d :: ds)
end
theorem DtAll.length {H : Hp} {A : Option Addr} : ∀ {xs : List V} {ds : List PyData}, DtAll K H A xs ds → xs.length = ds.length
  | _, _, .nil => rfl
  | _, _, .cons _ r => by rw [List.length_cons, List.length_cons, r.length]
theorem DtAll.get {H : Hp} {A : Option Addr} : ∀ {xs : List V} {ds : List PyData} {i : Nat} {x : V}, DtAll K H A xs ds → xs[i]? = some x → ∃ d, ds[i]? = some d ∧ Dt K H A x d
  | _, _, _, _, .nil, e => by simp at e
  | _, _, 0, x, .cons h _, e => by simp at e; subst e; exact ⟨_, rfl, h⟩
  | _, _, i + 1, x, .cons _ r, e => by
    obtain ⟨d, h1, h2⟩ := r.get (i := i) (x := x) (by simpa using e)
    exact ⟨d, by simpa using h1, h2⟩
theorem DtAll.getD {H : Hp} {A : Option Addr} {xs : List V} {ds : List PyData} {i : Nat} {d : PyData} (h : DtAll K H A xs ds) (e : ds[i]? = some d) : ∃ x, xs[i]? = some x ∧ Dt K H A x d := by
  have hi : i < ds.length := (List.getElem?_eq_some_iff.mp e).1
  have hi' : i < xs.length := by rw [h.length]; exact hi
  obtain ⟨d', h1, h2⟩ := h.get (List.getElem?_eq_getElem hi')
  rw [e] at h1
  cases h1
  exact ⟨_, List.getElem?_eq_getElem hi', h2⟩
mutual
theorem Dt.mod {H H' : Hp} {A D : Addr} (s : Mod A H H') (dr : Dr H D A) : ∀ (d : PyData) (v : V), Dt K H (some A) v d → Dt K H' (some A) v d
  | .none, _, h => by cases h; exact .non
  | .bool b, _, h => by cases h; exact .bl b
  | .int i, _, h => by cases h; exact .int i
  | .str z, _, h => by cases h with | str _ hz => exact .str z hz
  | .list ds, _, h => by cases h with | lst hn ha hd => exact .lst hn (s _ _ hn ha) (DtAll.mod s dr ds _ hd)
  | .tuple ds, _, h => by
    cases h with
    | tup ha hd =>
      obtain ⟨_, _, _, _, e, _⟩ := id dr
      exact .tup (ha.imp (fun ha => s _ _ (ne_of ha e (by intro z; cases z)) ha) id) (DtAll.mod s dr ds _ hd)
  | .dict _, _, h => by cases h
theorem DtAll.mod {H H' : Hp} {A D : Addr} (s : Mod A H H') (dr : Dr H D A) : ∀ (ds : List PyData) (xs : List V), DtAll K H (some A) xs ds → DtAll K H' (some A) xs ds
  | [], _, h => by cases h; exact .nil
  | d :: ds, _, h => by cases h with | cons h1 h2 => exact .cons (Dt.mod s dr d _ h1) (DtAll.mod s dr ds _ h2)
end
mutual
theorem Dt.same {H H' : Hp} {A : Option Addr} (s : Same H H') : ∀ (d : PyData) (v : V), Dt K H A v d → Dt K H' A v d
  | .none, _, h => by cases h; exact .non
  | .bool b, _, h => by cases h; exact .bl b
  | .int i, _, h => by cases h; exact .int i
  | .str z, _, h => by cases h with | str _ hz => exact .str z hz
  | .list ds, _, h => by cases h with | lst hn ha hd => exact .lst hn (s _ _ ha) (DtAll.same s ds _ hd)
  | .tuple ds, _, h => by cases h with | tup ha hd => exact .tup (ha.same s) (DtAll.same s ds _ hd)
  | .dict _, _, h => by cases h
theorem DtAll.same {H H' : Hp} {A : Option Addr} (s : Same H H') : ∀ (ds : List PyData) (xs : List V), DtAll K H A xs ds → DtAll K H' A xs ds
  | [], _, h => by cases h; exact .nil
  | d :: ds, _, h => by cases h with | cons h1 h2 => exact .cons (Dt.same s d _ h1) (DtAll.same s ds _ h2)
end
mutual
/-- data for a comparison -/
theorem Dt.dp {H : Hp} {A : Option Addr} : ∀ (d : PyData) (v : V), Dt K H A v d → Dp K H v d
  | .none, _, h => by cases h; exact .non
  | .bool b, _, h => by cases h; exact .bl b
  | .int i, _, h => by cases h; exact .int i
  | .str z, _, h => by cases h; exact .str z
  | .list ds, _, h => by cases h with | lst hn ha hd => exact .lst (SqL.of ha) (DtAll.dp ds _ hd)
  | .tuple ds, _, h => by cases h with | tup ha hd => exact .tup ha.sq (DtAll.dp ds _ hd)
  | .dict _, _, h => by cases h
theorem DtAll.dp {H : Hp} {A : Option Addr} : ∀ (ds : List PyData) (xs : List V), DtAll K H A xs ds → DpAll K H xs ds
  | [], _, h => by cases h; exact .nil
  | d :: ds, _, h => by cases h with | cons h1 h2 => exact .cons (Dt.dp d _ h1) (DtAll.dp ds _ h2)
end
theorem Dt.on {H H' : Hp} {A : Option Addr} {v : V} {d : PyData} (h : Dt K H A v d) (s : Same H H') : Dt K H' A v d := Dt.same s d v h
theorem DtAll.on {H H' : Hp} {A : Option Addr} {xs : List V} {ds : List PyData} (h : DtAll K H A xs ds) (s : Same H H') : DtAll K H' A xs ds := DtAll.same s ds xs h
theorem Dt.by {H H' : Hp} {A D : Addr} {v : V} {d : PyData} (h : Dt K H (some A) v d) (s : Mod A H H') (dr : Dr H D A) : Dt K H' (some A) v d := Dt.mod s dr d v h
theorem DtAll.by {H H' : Hp} {A D : Addr} {xs : List V} {ds : List PyData} (h : DtAll K H (some A) xs ds) (s : Mod A H H') (dr : Dr H D A) : DtAll K H' (some A) xs ds := DtAll.mod s dr ds xs h
theorem Dt.two {H : Hp} {A : Option Addr} {v : V} {d : PyData} (h : Dt K H A v d) : (∃ a xs ds, v = .ref a ∧ d = .tuple ds ∧ TupAt K H a xs ∧ DtAll K H A xs ds) ∨ (∃ T, TyX K H v (.type T) ∧ kitB T "tuple" = some false ∧ ∀ ds, d ≠ .tuple ds) := by
  cases h with
  | tup ha hx => exact .inl ⟨_, _, _, rfl, rfl, ha, hx⟩
  | str z hz => exact .inr ⟨_, .base (.str z), by decide +kernel, fun _ z => nomatch z⟩
  | int i => exact .inr ⟨_, .base (.int i), by decide +kernel, fun _ z => nomatch z⟩
  | non => exact .inr ⟨_, .base .non, by decide +kernel, fun _ z => nomatch z⟩
  | bl b => exact .inr ⟨_, .base (.bl b), by decide +kernel, fun _ z => nomatch z⟩
  | lst _ ha _ => exact .inr ⟨_, .base (.lst ha), by decide +kernel, fun _ z => nomatch z⟩
/-- the kind of a value -/
def dTy : PyData → String
  | .none => "NoneType" | .bool _ => "bool" | .int _ => "int" | .str _ => "str" | .list _ => "list" | .tuple _ => "tuple" | .dict _ => "dict"
theorem Dt.ty {H : Hp} {A : Option Addr} {v : V} {d : PyData} (h : Dt K H A v d) : TyX K H v (.type (dTy d)) := by
  cases h with
  | non => exact .base .non
  | bl b => exact .base (.bl b)
  | int i => exact .base (.int i)
  | str z _ => exact .base (.str z)
  | lst _ ha _ => exact .base (.lst ha)
  | tup ha _ => exact ha.ty
/-! the predicates of the program, upon data -/
def dInt (lo hi : Int) : PyData → Bool
  | .int i => decide (lo ≤ i ∧ i ≤ hi)
  | _ => false
def dShort (m : Int) : PyData → Bool
  | .str z => isPr z && decide ((z.length : Int) ≤ m)
  | _ => false
def dCmd : PyData → Bool
  | .tuple [c, n, t] => dInt (-100) (-1) c && dInt 1 1000000000000 n && dShort 240 t
  | _ => false
def dClient : PyData → Int
  | .tuple (.int c :: _) => c
  | _ => 0
def dAfter : Option Int → PyData → Bool
  | some k, d => decide (k < dClient d)
  | none, _ => true
def befV : Option Int → V
  | some k => .int k
  | none => .non
def dCmdsFrom : Option Int → List PyData → Bool
  | _, [] => true
  | b, d :: r => dCmd d && dAfter b d && dCmdsFrom (some (dClient d)) r
theorem dCmdsFrom_cons (b : Option Int) (d : PyData) (r : List PyData) : dCmdsFrom b (d :: r) = (dCmd d && dAfter b d && dCmdsFrom (some (dClient d)) r) := by cases b <;> rfl
theorem dCmdsFrom_nil (b : Option Int) : dCmdsFrom b [] = true := by cases b <;> rfl
def dCmds : PyData → Bool
  | .tuple ds => dCmdsFrom none ds
  | _ => false
def dHeight (parent : Int) (h : PyData) : Bool := if parent = 0 then dInt 1 1 h else dInt 2 (parent + 1) h
def dBlock4 (e p h cs : PyData) : Bool := match e, p with
  | .int e, .int p => dInt 1 1000000000000 (.int e) && dInt 0 (e - 1) (.int p) && dHeight p h && dCmds cs
  | _, _ => false
def dBlock : PyData → Bool
  | .tuple [e, p, h, cs] => dBlock4 e p h cs
  | _ => false
def dEmpty : PyData → Bool
  | .tuple [] => true
  | _ => false
def dGen : PyData → Bool
  | .tuple [e, p, h, cs] => dInt 0 0 e && dInt 0 0 p && dInt 0 0 h && dEmpty cs
  | _ => false
theorem DtAll.four {H : Hp} {A : Option Addr} {xs : List V} {ds : List PyData} (h : DtAll K H A xs ds) (hl : xs.length = 4) :
    ∃ x1 x2 x3 x4 d1 d2 d3 d4, xs = [x1, x2, x3, x4] ∧ ds = [d1, d2, d3, d4] ∧ Dt K H A x1 d1 ∧ Dt K H A x2 d2 ∧ Dt K H A x3 d3 ∧ Dt K H A x4 d4 := by
  match xs, ds, h with
  | [_, _, _, _], _, .cons h1 (.cons h2 (.cons h3 (.cons h4 .nil))) => exact ⟨_, _, _, _, _, _, _, _, rfl, rfl, h1, h2, h3, h4⟩
theorem dBlock4_e1 {e p h cs : PyData} (z : dInt 1 1000000000000 e = false) : dBlock4 e p h cs = false := by
  unfold dBlock4
  split
  · rw [z]; rfl
  · rfl
theorem dBlock4_e2 {e : Int} {p h cs : PyData} (z : dInt 0 (e - 1) p = false) : dBlock4 (.int e) p h cs = false := by
  unfold dBlock4
  split
  · rename_i h1
    cases h1
    rw [z, Bool.and_false]; rfl
  · rfl
/-- a predicate of one value, kept by growing heaps -/
def spPred (K : PySem.W.Frag) (A : Option Addr) (f : PyData → Bool) : Sp := fun vs H Q _ => ∃ (v : V) (d : PyData), vs = [v] ∧ Dt K H A v d ∧ ∀ H', Same H H' → Q (.bl (f d)) H'
def spIntD (K : PySem.W.Frag) (A : Option Addr) : Sp := fun vs H Q _ => ∃ (v : V) (d : PyData) (lo hi : Int), vs = [v, .int lo, .int hi] ∧ Dt K H A v d ∧ Q (.bl (dInt lo hi d)) H
def spShortD (K : PySem.W.Frag) (A : Option Addr) : Sp := fun vs H Q _ => ∃ (v : V) (d : PyData) (m : Int), vs = [v, .int m] ∧ Dt K H A v d ∧ ∀ H', Same H H' → Q (.bl (dShort m d)) H'
theorem dInt_inv {lo hi : Int} {d : PyData} (h : dInt lo hi d = true) : ∃ i, d = .int i ∧ lo ≤ i ∧ i ≤ hi := by
  cases d with
  | int i =>
    have h : decide (lo ≤ i ∧ i ≤ hi) = true := h
    exact ⟨i, rfl, (of_decide_eq_true h).1, (of_decide_eq_true h).2⟩
  | none => cases h
  | bool b => cases h
  | str z => cases h
  | list ds => cases h
  | tuple ds => cases h
  | dict k => cases h
theorem dShort_inv {m : Int} {d : PyData} (h : dShort m d = true) : ∃ z : Str, d = .str z ∧ isPr z = true ∧ (z.length : Int) ≤ m := by
  cases d with
  | str z =>
    have h : (isPr z && decide ((z.length : Int) ≤ m)) = true := h
    obtain ⟨h1, h2⟩ := Bool.and_eq_true_iff.mp h
    exact ⟨z, rfl, h1, of_decide_eq_true h2⟩
  | none => cases h
  | bool b => cases h
  | int i => cases h
  | list ds => cases h
  | tuple ds => cases h
  | dict k => cases h
theorem dCmd_inv {d : PyData} (h : dCmd d = true) : ∃ (c n : Int) (t : Str), d = .tuple [.int c, .int n, .str t] ∧ -100 ≤ c ∧ c ≤ -1 ∧ 1 ≤ n ∧ n ≤ 1000000000000 ∧ isPr t = true ∧ (t.length : Int) ≤ 240 := by
  unfold dCmd at h
  split at h
  · rename_i c n t
    rw [Bool.and_eq_true, Bool.and_eq_true] at h
    obtain ⟨⟨h1, h2⟩, h3⟩ := h
    obtain ⟨c, rfl, c0, c1⟩ := dInt_inv h1
    obtain ⟨n, rfl, n0, n1⟩ := dInt_inv h2
    obtain ⟨t, rfl, t0, t1⟩ := dShort_inv h3
    exact ⟨c, n, t, rfl, c0, c1, n0, n1, t0, t1⟩
  · cases h
/-- what a tuple of three ints, ints, texts stands for -/
theorem Dt.three {H : Hp} {A : Option Addr} {v : V} {d1 d2 d3 : PyData} (h : Dt K H A v (.tuple [d1, d2, d3])) : ∃ a x1 x2 x3, v = .ref a ∧ TupAt K H a [x1, x2, x3] ∧ Dt K H A x1 d1 ∧ Dt K H A x2 d2 ∧ Dt K H A x3 d3 := by
  cases h with
  | tup ha hd =>
    cases hd with
    | cons h1 hd =>
      cases hd with
      | cons h2 hd =>
        cases hd with
        | cons h3 hd =>
          cases hd
          exact ⟨_, _, _, _, rfl, ha, h1, h2, h3⟩
mutual
theorem Dt.any {H : Hp} {A : Option Addr} : ∀ (d : PyData) (v : V), Dt K H A v d → Dt K H none v d
  | .none, _, h => by cases h; exact .non
  | .bool b, _, h => by cases h; exact .bl b
  | .int i, _, h => by cases h; exact .int i
  | .str z, _, h => by cases h with | str _ hz => exact .str z hz
  | .list ds, _, h => by cases h with | lst hn ha hd => exact .lst trivial ha (DtAll.any ds _ hd)
  | .tuple ds, _, h => by cases h with | tup ha hd => exact .tup ha (DtAll.any ds _ hd)
  | .dict _, _, h => by cases h
theorem DtAll.any {H : Hp} {A : Option Addr} : ∀ (ds : List PyData) (xs : List V), DtAll K H A xs ds → DtAll K H none xs ds
  | [], _, h => by cases h; exact .nil
  | d :: ds, _, h => by cases h with | cons h1 h2 => exact .cons (Dt.any d _ h1) (DtAll.any ds _ h2)
end
theorem Dt.an {H : Hp} {A : Option Addr} {v : V} {d : PyData} (h : Dt K H A v d) : Dt K H none v d := Dt.any d v h
/-! data without lists -/
mutual
def noL : PyData → Bool
  | .list _ => false
  | .tuple ds => noLs ds
  | _ => true
def noLs : List PyData → Bool
  | [] => true
  | d :: r => noL d && noLs r
end
/-- tracked tuples stay -/
def Tp (H H' : Hp) : Prop := ∀ a xs, H a = some (.tup xs) → H' a = some (.tup xs)
mutual
theorem Dt.keep {H H' : Hp} {A B : Option Addr} (t : Tp H H') : ∀ (d : PyData) (v : V), noL d = true → Dt K H A v d → Dt K H' B v d
  | .none, _, _, h => by cases h; exact .non
  | .bool b, _, _, h => by cases h; exact .bl b
  | .int i, _, _, h => by cases h; exact .int i
  | .str z, _, _, h => by cases h with | str _ hz => exact .str z hz
  | .list ds, _, n, _ => by cases n
  | .tuple ds, _, n, h => by cases h with | tup ha hd => exact .tup (ha.imp (t _ _) id) (DtAll.keep t ds _ n hd)
  | .dict _, _, _, h => by cases h
theorem DtAll.keep {H H' : Hp} {A B : Option Addr} (t : Tp H H') : ∀ (ds : List PyData) (xs : List V), noLs ds = true → DtAll K H A xs ds → DtAll K H' B xs ds
  | [], _, _, h => by cases h; exact .nil
  | d :: ds, _, n, h => by
    have n : (noL d && noLs ds) = true := n
    rw [Bool.and_eq_true] at n
    cases h with | cons h1 h2 => exact .cons (Dt.keep t d _ n.1 h1) (DtAll.keep t ds _ n.2 h2)
end
theorem DtAll.snoc {H : Hp} {A : Option Addr} : ∀ {xs : List V} {ds : List PyData} {x : V} {d : PyData}, DtAll K H A xs ds → Dt K H A x d → DtAll K H A (xs ++ [x]) (ds ++ [d])
  | _, _, _, _, .nil, h => .cons h .nil
  | _, _, _, _, .cons h r, h2 => .cons h (r.snoc h2)
theorem TupAt.tp {H H' : Hp} {a : Addr} {xs : List V} (h : TupAt K H a xs) (t : Tp H H') : TupAt K H' a xs := h.imp (t _ _) id
theorem Same.tp {H H' : Hp} (s : Same H H') : Tp H H' := fun _ _ h => s _ _ h
theorem Mod.tp {H H' : Hp} {A D : Addr} (s : Mod A H H') (dr : Dr H D A) : Tp H H' := fun a xs h => by
  obtain ⟨_, _, _, _, e, _⟩ := id dr
  exact s _ _ (ne_of h e (by intro z; cases z)) h
theorem tp_put {H : Hp} {l : Addr} {xs ys : List V} (h : H l = some (.lst xs)) : Tp H (upd H l (.lst ys)) := fun a zs e => by
  rw [upd_ne (ne_of e h (by intro z; cases z))]; exact e
theorem dCmd_noL {d : PyData} (h : dCmd d = true) : noL d = true := by
  obtain ⟨c, n, t, rfl, _⟩ := dCmd_inv h
  rfl
theorem dCmdsFrom_noL : ∀ {ds : List PyData} {b : Option Int}, dCmdsFrom b ds = true → noLs ds = true
  | [], _, _ => rfl
  | d :: r, b, h => by
    rw [dCmdsFrom_cons, Bool.and_eq_true, Bool.and_eq_true] at h
    show (noL d && noLs r) = true
    rw [dCmd_noL h.1.1, dCmdsFrom_noL h.2]; rfl
theorem dCmdsFrom_all : ∀ {ds : List PyData} {b : Option Int}, dCmdsFrom b ds = true → ∀ d ∈ ds, dCmd d = true
  | [], _, _, _, m => nomatch m
  | d :: r, b, h, e, m => by
    rw [dCmdsFrom_cons, Bool.and_eq_true, Bool.and_eq_true] at h
    rcases List.mem_cons.mp m with rfl | m
    · exact h.1.1
    · exact dCmdsFrom_all h.2 e m
def lastC : Option Int → List PyData → Option Int
  | b, [] => b
  | _, d :: r => lastC (some (dClient d)) r
theorem lastC_snoc : ∀ (ds : List PyData) (b : Option Int) (d : PyData), lastC b (ds ++ [d]) = some (dClient d)
  | [], _, _ => rfl
  | _ :: r, _, d => lastC_snoc r _ d
theorem dCmdsFrom_snoc : ∀ (ds : List PyData) (b : Option Int) (d : PyData), dCmdsFrom b (ds ++ [d]) = (dCmdsFrom b ds && (dCmd d && dAfter (lastC b ds) d))
  | [], b, d => by
    show dCmdsFrom b [d] = _
    rw [dCmdsFrom_cons, dCmdsFrom_nil, dCmdsFrom_nil, Bool.and_true, Bool.true_and]; rfl
  | e :: r, b, d => by
    show dCmdsFrom b (e :: (r ++ [d])) = _
    rw [dCmdsFrom_cons, dCmdsFrom_snoc r, dCmdsFrom_cons, Bool.and_assoc, Bool.and_assoc, Bool.and_assoc]; rfl
end
theorem noLs_all : ∀ {ds : List PyData}, (∀ d ∈ ds, noL d = true) → noLs ds = true
  | [], _ => rfl
  | d :: r, h => by
    show (noL d && noLs r) = true
    rw [h d List.mem_cons_self, noLs_all (fun e he => h e (List.mem_cons_of_mem _ he))]; rfl

theorem same_none {H H' : Hp} {p : Addr} (s : Same H H') (h : H' p = none) : H p = none := by
  cases e : H p with
  | none => rfl
  | some o => rw [s p o e] at h; cases h

theorem atI_lt {α : Type} {xs : List α} {i : Int} (h0 : 0 ≤ i) (h1 : i < xs.length) : ∃ v, v ∈ xs ∧ atI xs i = some v := by
  obtain ⟨j, rfl⟩ := Int.eq_ofNat_of_zero_le h0
  have hj : j < xs.length := Int.ofNat_lt.mp h1
  exact ⟨xs[j], List.getElem_mem hj, atI_nat (List.getElem?_eq_getElem hj)⟩

/-- all but p and l are as they were -/
def But2 (p l : Addr) (H H' : Hp) : Prop := ∀ b o, b ≠ p → b ≠ l → H b = some o → H' b = some o
theorem But2.refl {p l : Addr} {H : Hp} : But2 p l H H := fun _ _ _ _ h => h
theorem But2.trans {p l : Addr} {H H1 H2 : Hp} (a : But2 p l H H1) (b : But2 p l H1 H2) : But2 p l H H2 := fun c o n m h => b c o n m (a c o n m h)
theorem Same.but2 {p l : Addr} {H H' : Hp} (s : Same H H') : But2 p l H H' := fun b o _ _ h => s b o h

/-! ### dicts as lists of pairs -/
section
variable {κ α : Type} [DecidableEq κ]
def gA (ks : List (κ × α)) (c : κ) : Option α := (ks.find? fun k => decide (k.1 = c)).map (·.2)
def pA (ks : List (κ × α)) (c : κ) (x : α) : List (κ × α) := if (ks.any fun k => decide (k.1 = c)) = true then ks.map (fun k => if k.1 = c then (k.1, x) else k) else ks ++ [(c, x)]
/-- the pairs as they stand in a dict -/
def kvs (em : κ → Key) (f : α → V) (ks : List (κ × α)) : List (Key × V) := ks.map fun k => (em k.1, f k.2)
def kOk (ks : List (κ × α)) : Prop := (ks.map (·.1)).Nodup
theorem gA_kvs {em : κ → Key} (inj : ∀ a b, em a = em b → a = b) (f : α → V) : ∀ (ks : List (κ × α)) (c : κ), valV (kvs em f ks) (em c) = (gA ks c).map f
  | [], _ => rfl
  | k :: r, c => by
    have ih := gA_kvs inj f r c
    unfold kvs valV gA at ih ⊢
    rw [List.map_cons, List.find?_cons, List.find?_cons]
    by_cases h : k.1 = c
    · have h1 : decide (em k.1 = em c) = true := decide_eq_true (by rw [h])
      rw [h1, decide_eq_true h]; rfl
    · have h1 : decide (em k.1 = em c) = false := decide_eq_false (fun z => h (inj _ _ z))
      rw [h1, decide_eq_false h]; exact ih
theorem pA_kvs {em : κ → Key} (inj : ∀ a b, em a = em b → a = b) (f : α → V) (ks : List (κ × α)) (c : κ) (x : α) : putK (kvs em f ks) (em c) (f x) = kvs em f (pA ks c x) := by
  have e : ∀ k : κ × α, decide (em k.1 = em c) = decide (k.1 = c) := fun k => decide_eq_decide.mpr ⟨fun z => inj _ _ z, fun z => by rw [z]⟩
  unfold putK pA kvs
  rw [List.any_map, show ((fun kv : Key × V => decide (kv.1 = em c)) ∘ fun k : κ × α => (em k.1, f k.2)) = fun k => decide (k.1 = c) from funext e]
  split
  · rw [List.map_map, List.map_map]
    refine List.map_congr_left fun k _ => ?_
    show (if em k.1 = em c then (em k.1, f x) else (em k.1, f k.2)) = (fun k : κ × α => (em k.1, f k.2)) (if k.1 = c then (k.1, x) else k)
    by_cases h : k.1 = c
    · rw [if_pos h, if_pos (by rw [h])]
    · rw [if_neg h, if_neg (fun z => h (inj _ _ z))]
  · rw [List.map_append]; rfl
theorem pA_len (ks : List (κ × α)) (c : κ) (x : α) : (pA ks c x).length ≤ ks.length + 1 := by
  unfold pA
  split
  · rw [List.length_map]; omega
  · rw [List.length_append]; exact Nat.le_refl _
theorem kvs_len (em : κ → Key) (f : α → V) (ks : List (κ × α)) : (kvs em f ks).length = ks.length := List.length_map _
theorem any_mem {ks : List (κ × α)} {c : κ} : (ks.any fun k => decide (k.1 = c)) = true ↔ c ∈ ks.map (·.1) := by
  rw [List.any_eq_true, List.mem_map]
  constructor
  · rintro ⟨k, hk, e⟩; exact ⟨k, hk, of_decide_eq_true e⟩
  · rintro ⟨k, hk, e⟩; exact ⟨k, hk, decide_eq_true e⟩
theorem pA_keys (ks : List (κ × α)) (c : κ) (x : α) : (pA ks c x).map (·.1) = if c ∈ ks.map (·.1) then ks.map (·.1) else ks.map (·.1) ++ [c] := by
  unfold pA
  by_cases h : c ∈ ks.map (·.1)
  · rw [if_pos (any_mem.mpr h), if_pos h, List.map_map]
    refine List.map_congr_left fun k _ => ?_
    show (if k.1 = c then (k.1, x) else k).1 = k.1
    split <;> rfl
  · rw [if_neg (fun z => h (any_mem.mp z)), if_neg h, List.map_append]; rfl
theorem pA_ok {ks : List (κ × α)} (c : κ) (x : α) (h : kOk ks) : kOk (pA ks c x) := by
  unfold kOk at *
  rw [pA_keys]
  split
  · exact h
  · rename_i hn
    rw [List.nodup_append]
    refine ⟨h, by simp, fun a ha b hb => ?_⟩
    have hb : b = c := by simpa using hb
    rw [hb]
    intro e
    exact hn (e ▸ ha)
theorem gA_none {ks : List (κ × α)} {c : κ} : gA ks c = none ↔ c ∉ ks.map (·.1) := by
  unfold gA
  rw [Option.map_eq_none_iff, List.find?_eq_none]
  constructor
  · intro h m
    obtain ⟨k, hk, e⟩ := List.mem_map.mp m
    exact h k hk (decide_eq_true e)
  · intro h k hk e
    exact h (List.mem_map.mpr ⟨k, hk, of_decide_eq_true e⟩)
theorem gA_mem : ∀ {ks : List (κ × α)} {k : κ × α}, kOk ks → k ∈ ks → gA ks k.1 = some k.2
  | q :: r, k, h, m => by
    unfold kOk at h
    rw [List.map_cons, List.nodup_cons] at h
    unfold gA
    rw [List.find?_cons]
    rcases List.mem_cons.mp m with rfl | m
    · rw [decide_eq_true rfl]; rfl
    · by_cases e : q.1 = k.1
      · exact absurd (e ▸ List.mem_map_of_mem (f := (·.1)) m) h.1
      · rw [decide_eq_false e]
        exact gA_mem (ks := r) h.2 m
theorem gA_some {ks : List (κ × α)} {c : κ} {x : α} (h : gA ks c = some x) : (c, x) ∈ ks := by
  unfold gA at h
  rw [Option.map_eq_some_iff] at h
  obtain ⟨k, h1, rfl⟩ := h
  have h2 := List.find?_some h1
  have h3 := List.mem_of_find?_eq_some h1
  have : k.1 = c := of_decide_eq_true h2
  rw [← this]; exact h3
theorem pA_mem {ks : List (κ × α)} {c : κ} {x : α} {k : κ × α} (h : k ∈ pA ks c x) : k = (c, x) ∨ (k ∈ ks ∧ k.1 ≠ c) := by
  unfold pA at h
  split at h
  · obtain ⟨q, hq, e⟩ := List.mem_map.mp h
    by_cases hc : q.1 = c
    · rw [if_pos hc] at e; exact .inl (by rw [← e, hc])
    · rw [if_neg hc] at e; subst e; exact .inr ⟨hq, hc⟩
  · rename_i hn
    rcases List.mem_append.mp h with h | h
    · exact .inr ⟨h, fun e => hn (any_mem.mpr (List.mem_map.mpr ⟨k, h, e⟩))⟩
    · exact .inl (List.mem_singleton.mp h)
theorem gA_put {ks : List (κ × α)} (h : kOk ks) (c d : κ) (x : α) : gA (pA ks c x) d = if d = c then some x else gA ks d := by
  have h2 := pA_ok c x h
  by_cases e : d = c
  · subst e
    rw [if_pos rfl]
    have hm : d ∈ (pA ks d x).map (·.1) := by
      rw [pA_keys]; split
      · assumption
      · exact List.mem_append_right _ (List.mem_singleton.mpr rfl)
    obtain ⟨k, hk, ek⟩ := List.mem_map.mp hm
    have := gA_mem h2 hk
    rw [ek] at this
    rw [this]
    rcases pA_mem hk with e | ⟨_, e⟩
    · rw [e]
    · exact absurd ek e
  · rw [if_neg e]
    cases g : gA ks d with
    | none =>
      rw [gA_none] at g ⊢
      rw [pA_keys]
      split
      · exact g
      · intro m
        rcases List.mem_append.mp m with m | m
        · exact g m
        · exact e (List.mem_singleton.mp m)
    | some y =>
      have hm := gA_some g
      have : (d, y) ∈ pA ks c x := by
        unfold pA
        split
        · exact List.mem_map.mpr ⟨(d, y), hm, if_neg e⟩
        · exact List.mem_append_left _ hm
      exact gA_mem h2 this
theorem kvs_keys {em : κ → Key} {f : α → V} {ks : List (κ × α)} : (kvs em f ks).map (·.1) = (ks.map (·.1)).map em := by
  unfold kvs
  rw [List.map_map, List.map_map]; rfl
end
theorem inlI : ∀ a b : Int, (Sum.inl a : Key) = Sum.inl b → a = b := fun _ _ z => Sum.inl.inj z
theorem inrI : ∀ a b : Str, (Sum.inr a : Key) = Sum.inr b → a = b := fun _ _ z => Sum.inr.inj z

/-! ### BadCommand(reason, statement) -/
section
variable {P : Program} {w : World} {K : PySem.W.Frag} {mg : Str → Option Value} {base : Heap}
theorem i_BadCommand {C_Sessions : Addr} {C_BadCommand : Addr} (T : Txt K mg C_Sessions C_BadCommand) : ExMk P w K mg base 1 "BadCommand" C_BadCommand (spInit2 C_BadCommand "reason" "statement") := by
  refine exmk T.x_BadCommand T.ei_BadCommand sc_BadCommand____init__ (fun vs H Q E h => ?_) (fun f cdv A' outer s H vs Q E hr h => ?_)
  · obtain ⟨a, r, t, rfl, _⟩ := h; rfl
  obtain ⟨a, r, t, rfl, ha, q⟩ := h
  refine ⟨_, (pss_cons (ps_ost (pv 0) (pv 1))
      (pss_one (ps_ost (pv 0) (pv 2)))), ?_⟩
  walk_at "rds"
  refine ⟨a, C_BadCommand, rfl, T.x_BadCommand.ox, T.xn_BadCommand_reason, .inl ⟨ha, fun d hd hne => ?_⟩⟩
  walk_at "rds"
  refine ⟨a, C_BadCommand, rfl, T.x_BadCommand.ox, T.xn_BadCommand_statement, .inr ⟨d, _, upd_same, by rw [upd_ne hne]; exact upd_same, (by show 1 ≤ 900; decide), ?_⟩⟩
  exact q d hd hne
end

/-! ### the sessions -/
abbrev SD := List (Int × Int × Str)
def numsD (ks : SD) : List (Key × V) := kvs Sum.inl (fun x => V.int x.1) ks
def ansD (ks : SD) : List (Key × V) := kvs Sum.inl (fun x => V.str x.2) ks
def seF (n a : Addr) : List (Str × V) := putF "_answers" (.ref a) (putF "_numbers" (.ref n) [])
def SeAt (C : Addr) (H : Hp) (p n a : Addr) (ks : SD) : Prop := (∃ dx, H p = some (.ins C dx (seF n a))) ∧ H n = some (.dK (numsD ks)) ∧ H a = some (.dK (ansD ks)) ∧ n ≠ a
theorem SeAt.on {C : Addr} {H H' : Hp} {p n a : Addr} {ks : SD} (h : SeAt C H p n a ks) (s : Same H H') : SeAt C H' p n a ks := by
  obtain ⟨⟨dx, h1⟩, h2, h3, h4⟩ := h
  exact ⟨⟨dx, s _ _ h1⟩, s _ _ h2, s _ _ h3, h4⟩
def seL (ks : SD) (c : Int) : Int := ((gA ks c).map (·.1)).getD 0
def seA (ks : SD) (c : Int) : Str := ((gA ks c).map (·.2)).getD (Str.ofString "")
def rowD (ks : SD) (c : Int) : PyData := .tuple [.int c, .int (seL ks c), .str (seA ks c)]
/-- all but n and a are as they were -/
def spSeInit (C : Addr) : Sp := fun vs H Q _ => ∃ (p dx : Addr), vs = [.ref p] ∧ H p = some (.ins C dx []) ∧
  ∀ (H' : Hp) (n a : Addr), (∀ b o, H b = some o → b ≠ p → H' b = some o) → H n = none → H a = none → SeAt C H' p n a [] → Q .non H'
def spSeLast (C : Addr) : Sp := fun vs H Q _ => ∃ (p n a : Addr) (ks : SD) (c : Int), vs = [.ref p, .int c] ∧ SeAt C H p n a ks ∧ Q (.int (seL ks c)) H
def spSeAns (C : Addr) : Sp := fun vs H Q _ => ∃ (p n a : Addr) (ks : SD) (c : Int), vs = [.ref p, .int c] ∧ SeAt C H p n a ks ∧ Q (.str (seA ks c)) H
def spSeRem (C B : Addr) : Sp := fun vs H Q E => ∃ (p n a : Addr) (ks : SD) (c m : Int) (z : Str), vs = [.ref p, .int c, .int m, .str z] ∧ SeAt C H p n a ks ∧ ks.length ≤ 1000 ∧
  (seL ks c < m → ∀ H', But2 n a H H' → SeAt C H' p n a (pA ks c (m, z)) → Q .non H') ∧
  (m ≤ seL ks c → ∀ H' d, Same H H' → H' d = some (.xd [("statement", .int 0), ("reason", .str "number")]) → E (.ref B) (some d) H')
def spSeNums (C : Addr) : Sp := fun vs H Q _ => ∃ (p n a : Addr) (ks : SD), vs = [.ref p] ∧ SeAt C H p n a ks ∧ ∀ r, H r = none → Q (.ref r) (upd H r (.dK (numsD ks)))
def spSeClone (C : Addr) : Sp := fun vs H Q _ => ∃ (p n a : Addr) (ks : SD), vs = [.ref p] ∧ SeAt C H p n a ks ∧
  ∀ H' p' n' a', Same H H' → H p' = none → H n' = none → H a' = none → SeAt C H' p' n' a' ks → Q (.ref p') H'
def spSeRows (K : PySem.W.Frag) (C : Addr) : Sp := fun vs H Q _ => ∃ (p n a : Addr) (ks : SD), vs = [.ref p] ∧ SeAt C H p n a ks ∧ ks.length < 64 ∧ kOk ks ∧ (∀ k ∈ ks, k.2.2.length ≤ 1000) ∧
  ∀ (ys : List Int) (xs : List V) H' r, ys.Perm (ks.map (·.1)) → ys.Pairwise (· ≤ ·) → Same H H' → H r = none → H' r = some (.lst xs) → DtAll K H' none xs (ys.map (rowD ks)) → Q (.ref r) H'
section
variable {P : Program} {w : World} {K : PySem.W.Frag} {mg : Str → Option Value} {base : Heap}
theorem k_Sessions {C_Sessions : Addr} {C_BadCommand : Addr} (T : Txt K mg C_Sessions C_BadCommand) : Mak P w K mg base 1 "Sessions" C_Sessions (spSeInit C_Sessions) [] := by
  refine mak T.g_Sessions T.mk_Sessions sc_Sessions____init__ (fun vs H Q E h => ?_) (fun f cdv A outer s H vs Q E hr h => ?_)
  · obtain ⟨p, dx, rfl, _⟩ := h; rfl
  obtain ⟨p, dx, rfl, hp, q⟩ := h
  refine ⟨_, (pss_cons (ps_fld (pv 0) pe_dnewK rfl)
      (pss_one (ps_fld (pv 0) pe_dnewK rfl))), ?_⟩
  intro n hn
  walk_at "rds"
  refine ⟨p, _, dx, _, rfl, (same_upd hn) _ _ hp, T.cl_Sessions, T.na_Sessions__numbers, by decide, ?_⟩
  have hnp : n ≠ p := (ne_of_none hp hn).symm
  intro a ha
  have hap : a ≠ p := (ne_of_none upd_same ha).symm
  have ha1 : upd H n (.dK []) a = none := by rw [upd_ne hap] at ha; exact ha
  have han : n ≠ a := ne_of_none upd_same ha1
  have ha0 : H a = none := same_none (same_upd hn) ha1
  walk_at "rds"
  refine ⟨p, _, dx, _, rfl, (by rw [upd_ne hap.symm]; exact upd_same), T.cl_Sessions, T.na_Sessions__answers, (by show 1 < 1000; decide), ?_⟩
  refine q _ n a (fun b o e nb => ?_) hn ha0 ⟨⟨dx, upd_same⟩, ?_, ?_, han⟩
  · rw [upd_ne nb, upd_ne (ne_of_none e ha0), upd_ne nb, upd_ne (ne_of_none e hn)]; exact e
  · rw [upd_ne hnp, upd_ne han, upd_ne hnp]; exact upd_same
  · rw [upd_ne hap]; exact upd_same
theorem m_Sessions__last {C_Sessions : Addr} {C_BadCommand : Addr} (T : Txt K mg C_Sessions C_BadCommand) : Met P w K mg base 1 C_Sessions "last" (spSeLast C_Sessions) [] := by
  refine met T.cl_Sessions T.me_Sessions__last sc_Sessions__last (fun vs H Q E h => ?_) (fun f cdv A outer s H vs Q E hr h => ?_)
  · obtain ⟨p, n, a, ks, c, rfl, _⟩ := h; rfl
  obtain ⟨p, n, a, ks, c, rfl, ⟨⟨dx, g⟩, hn, ha, hna⟩, q⟩ := h
  refine ⟨_, (pss_one (ps_ret (pe_dget2 (hu1 hr) (pe_fld (pv 0) rfl) (pv 1) pe_int ⟨by rfl, by rfl, by rfl, by rfl⟩))), ?_⟩
  walk_at "rds"
  refine ⟨p, _, dx, _, _, rfl, g, T.cl_Sessions, T.na_Sessions__numbers, rfl, ?_⟩
  walk_at "rds"
  refine ⟨.inl ⟨_, .inl hn⟩, ?_⟩
  walk_at "rds"
  refine ⟨_, DGet.k (k := Sum.inl c) hn, ?_⟩
  unfold numsD
  rw [gA_kvs inlI]
  have e : ((gA ks c).map (fun x => V.int x.1)).getD (.int 0) = .int (seL ks c) := by
    unfold seL
    cases gA ks c <;> rfl
  rw [e]
  exact q
theorem m_Sessions__answer {C_Sessions : Addr} {C_BadCommand : Addr} (T : Txt K mg C_Sessions C_BadCommand) : Met P w K mg base 1 C_Sessions "answer" (spSeAns C_Sessions) [] := by
  refine met T.cl_Sessions T.me_Sessions__answer sc_Sessions__answer (fun vs H Q E h => ?_) (fun f cdv A outer s H vs Q E hr h => ?_)
  · obtain ⟨p, n, a, ks, c, rfl, _⟩ := h; rfl
  obtain ⟨p, n, a, ks, c, rfl, ⟨⟨dx, g⟩, hn, ha, hna⟩, q⟩ := h
  refine ⟨_, (pss_one (ps_ret (pe_dget2 (hu1 hr) (pe_fld (pv 0) rfl) (pv 1) pe_str ⟨by rfl, by rfl, by rfl, by rfl⟩))), ?_⟩
  walk_at "rds"
  refine ⟨p, _, dx, _, _, rfl, g, T.cl_Sessions, T.na_Sessions__answers, rfl, ?_⟩
  walk_at "rds"
  refine ⟨.inl ⟨_, .inl ha⟩, ?_⟩
  walk_at "rds"
  refine ⟨_, DGet.k (k := Sum.inl c) ha, ?_⟩
  unfold ansD
  rw [gA_kvs inlI]
  have e : ((gA ks c).map (fun x => V.str x.2)).getD (.str (Str.ofString "")) = .str (seA ks c) := by
    unfold seA
    cases gA ks c <;> rfl
  rw [e]
  exact q
theorem m_Sessions__numbers {C_Sessions : Addr} {C_BadCommand : Addr} (T : Txt K mg C_Sessions C_BadCommand) : Met P w K mg base 1 C_Sessions "numbers" (spSeNums C_Sessions) [] := by
  refine met T.cl_Sessions T.me_Sessions__numbers sc_Sessions__numbers (fun vs H Q E h => ?_) (fun f cdv A outer s H vs Q E hr h => ?_)
  · obtain ⟨p, n, a, ks, rfl, _⟩ := h; rfl
  obtain ⟨p, n, a, ks, rfl, ⟨⟨dx, g⟩, hn, ha, hna⟩, q⟩ := h
  refine ⟨_, (pss_one (ps_ret (pe_callTy call_dictD (by rfl) T.z_dict (by decide +kernel) (pa_cons (pe_fld (pv 0) rfl) pa_nil)))), ?_⟩
  walk_at "rds"
  refine ⟨p, _, dx, _, _, rfl, g, T.cl_Sessions, T.na_Sessions__numbers, rfl, ?_⟩
  walk_at "rds"
  exact ⟨n, _, rfl, .inl hn, fun r hr => q r hr⟩
theorem m_Sessions__remember {C_Sessions : Addr} {C_BadCommand : Addr} (T : Txt K mg C_Sessions C_BadCommand) : MetX P w K mg base 3 C_Sessions "remember" (spSeRem C_Sessions C_BadCommand) := by
  have m_Sessions__last := m_Sessions__last (P := P) (w := w) (base := base) T
  have i_BadCommand := i_BadCommand (P := P) (w := w) (base := base) T
  refine metX T.cl_Sessions T.me_Sessions__remember sc_Sessions__remember (fun vs H Q E h => ?_) (fun f cdv A outer s H vs Q E hr h => ?_)
  · obtain ⟨p, n, a, ks, c, m, z, rfl, _⟩ := h; rfl
  obtain ⟨p, n, a, ks, c, m, z, rfl, se, hl, q, qe⟩ := h
  obtain ⟨⟨dx, g⟩, hn, ha, hna⟩ := id se
  refine ⟨_, (pss_cons (ps_if (pt_cmpR op_le (pv 2) (pe_mt m_Sessions__last hr (by decide) (pv 0) (pa_cons (pv 1) pa_nil)) (nomark _)) (pss_one (ps_raise rfl (takes_of rfl rfl rfl rfl) (pmk_ei i_BadCommand hr (by decide) (by rfl) (pa_cons pe_str (pa_cons pe_int pa_nil))))) pss_nil)
      (pss_cons (ps_dput (hu_of hr) (pe_fld (pv 0) rfl) (pv 1) (pv 2) rfl)
      (pss_one (ps_dput (hu_of hr) (pe_fld (pv 0) rfl) (pv 1) (pv 3) rfl)))), ?_⟩
  walk_at "rds"
  refine ⟨p, dx, _, rfl, g, rfl, ?_⟩
  walk_at "rds"
  refine ⟨p, n, a, ks, c, rfl, se, ?_⟩
  walk_at "rds"
  refine ite2 (fun e => ?_) (fun e => ?_)
  · have e : m ≤ seL ks c := of_decide_eq_true e
    walk_at "rds"
    exact mk_two fun H' d s1 _ hd => qe e H' d s1 hd
  · have e : ¬ m ≤ seL ks c := fun h => e (decide_eq_true h)
    have hnp : p ≠ n := ne_of g hn (by intro z; cases z)
    have hap : p ≠ a := ne_of g ha (by intro z; cases z)
    walk_at "rds"
    refine ⟨p, _, dx, _, _, rfl, g, T.cl_Sessions, T.na_Sessions__numbers, rfl, ?_⟩
    walk_at "rds"
    refine ⟨n, _, rfl, DPut.k (k := Sum.inl c) hn (by unfold numsD; rw [kvs_len]; exact sz1000' (by omega)), ?_⟩
    walk_at "rds"
    refine ⟨p, _, dx, _, _, rfl, (by rw [upd_ne hnp]; exact g), T.cl_Sessions, T.na_Sessions__answers, rfl, ?_⟩
    walk_at "rds"
    refine ⟨a, _, rfl, DPut.k (k := Sum.inl c) (by rw [upd_ne hna.symm]; exact ha) (by unfold ansD; rw [kvs_len]; exact sz1000' (by omega)), ?_⟩
    refine q (by omega) _ (fun b o n1 n2 e => by rw [upd_ne n2, upd_ne n1]; exact e) ⟨⟨dx, by rw [upd_ne hap, upd_ne hnp]; exact g⟩, ?_, ?_, hna⟩
    · rw [upd_ne hna, upd_same]
      unfold numsD
      rw [← pA_kvs inlI]
    · rw [upd_same]
      unfold ansD
      rw [← pA_kvs inlI]
theorem m_Sessions__clone {C_Sessions : Addr} {C_BadCommand : Addr} (T : Txt K mg C_Sessions C_BadCommand) : Met P w K mg base 3 C_Sessions "clone" (spSeClone C_Sessions) [] := by
  have k_Sessions := k_Sessions (P := P) (w := w) (base := base) T
  refine met T.cl_Sessions T.me_Sessions__clone sc_Sessions__clone (fun vs H Q E h => ?_) (fun f cdv A outer s H vs Q E hr h => ?_)
  · obtain ⟨p, n, a, ks, rfl, _⟩ := h; rfl
  obtain ⟨p, n, a, ks, rfl, se, q⟩ := h
  refine ⟨_, (pss_cons (ps_set (i := 1) sc_Sessions__clone.nd rfl (Or.inl rfl) (pe_mk0 k_Sessions hr (by decide) (by rfl)))
      (pss_cons (ps_fld (pv 1) (pe_callTy call_dictD (by rfl) T.z_dict (by decide +kernel) (pa_cons (pe_fld (pv 0) rfl) pa_nil)) rfl)
      (pss_cons (ps_fld (pv 1) (pe_callTy call_dictD (by rfl) T.z_dict (by decide +kernel) (pa_cons (pe_fld (pv 0) rfl) pa_nil)) rfl)
      (pss_one (ps_ret (pv 1)))))), ?_⟩
  walk_at "rds"
  intro p2 dx2 hp2 hdx2 hne2
  refine ⟨p2, dx2, rfl, upd_same, fun H1 n2 a2 kp hn2 ha2 se2 => ⟨rfl, ?_⟩⟩
  have s1 : Same H H1 := Same.made hp2 hdx2 kp
  have sM : Same H (upd (upd H dx2 (.own p2)) p2 (.ins C_Sessions dx2 [])) := (same_upd hdx2).trans (same_upd (by rw [upd_ne hne2.symm]; exact hp2))
  have hn0 := same_none sM hn2
  have ha0 := same_none sM ha2
  obtain ⟨⟨dx3, g2⟩, hn2', ha2', _⟩ := id se2
  obtain ⟨⟨dx, g⟩, hn, ha, hna⟩ := se.on s1
  walk_at "rds"
  refine ⟨p, _, dx, _, _, rfl, g, T.cl_Sessions, T.na_Sessions__numbers, rfl, ?_⟩
  walk_at "rds"
  refine ⟨n, _, rfl, .inl hn, fun n3 hn3 => ?_⟩
  walk_at "rds"
  refine ⟨p2, _, dx3, _, rfl, (same_upd hn3) _ _ g2, T.cl_Sessions, T.na_Sessions__numbers, (by show 2 < 1000; decide), ?_⟩
  have s2 : Same H (upd (upd H1 n3 (.dK (numsD ks))) p2 (.ins C_Sessions dx3 (putF "_numbers" (.ref n3) (seF n2 a2)))) := same_mut (s1.trans (same_upd hn3)) hp2
  have hp2n : p2 ≠ n3 := ne_of_none g2 hn3
  obtain ⟨⟨dx4, g4⟩, hn4, ha4, _⟩ := se.on s2
  have hn34 : (upd (upd H1 n3 (.dK (numsD ks))) p2 (.ins C_Sessions dx3 (putF "_numbers" (.ref n3) (seF n2 a2)))) n3 = some (.dK (numsD ks)) := by rw [upd_ne hp2n.symm]; exact upd_same
  have hp24 : (upd (upd H1 n3 (.dK (numsD ks))) p2 (.ins C_Sessions dx3 (putF "_numbers" (.ref n3) (seF n2 a2)))) p2 = some (.ins C_Sessions dx3 (putF "_numbers" (.ref n3) (seF n2 a2))) := upd_same
  generalize upd (upd H1 n3 (.dK (numsD ks))) p2 (.ins C_Sessions dx3 (putF "_numbers" (.ref n3) (seF n2 a2))) = H2 at s2 g4 hn4 ha4 hn34 hp24
  walk_at "rds"
  refine ⟨p, _, dx4, _, _, rfl, g4, T.cl_Sessions, T.na_Sessions__answers, rfl, ?_⟩
  walk_at "rds"
  refine ⟨a, _, rfl, .inl ha4, fun a3 ha3 => ?_⟩
  walk_at "rds"
  refine ⟨p2, _, dx3, _, rfl, (same_upd ha3) _ _ hp24, T.cl_Sessions, T.na_Sessions__answers, (by show 2 < 1000; decide), ?_⟩
  have hp2a : p2 ≠ a3 := ne_of_none hp24 ha3
  have hn3a : n3 ≠ a3 := ne_of_none hn34 ha3
  walk_at "rds"
  refine q _ p2 n3 a3 (same_mut (s2.trans (same_upd ha3)) hp2) hp2 (same_none s1 hn3) (same_none s2 ha3) ⟨⟨dx3, upd_same⟩, ?_, ?_, hn3a⟩
  · rw [upd_ne hp2n.symm, upd_ne hn3a]; exact hn34
  · rw [upd_ne hp2a.symm]; exact upd_same
theorem m_Sessions__rows {C_Sessions : Addr} {C_BadCommand : Addr} (T : Txt K mg C_Sessions C_BadCommand) : Met P w K mg base 1 C_Sessions "rows" (spSeRows K C_Sessions) [] := by
  refine met T.cl_Sessions T.me_Sessions__rows sc_Sessions__rows (fun vs H Q E h => ?_) (fun f cdv A outer s H vs Q E hr h => ?_)
  · obtain ⟨p, n, a, ks, rfl, _⟩ := h; rfl
  obtain ⟨p, n, a, ks, rfl, se, h64, hok, hz, q⟩ := h
  obtain ⟨⟨dx, g⟩, hn, ha, hna⟩ := id se
  refine ⟨_, (pss_one (ps_ret (pe_lc (own := [("client", 1)]) (g := gName 1) (by rfl) sc_Sessions__rows.nd (pi_list (pe_callB (call_sortedDI rfl) (by rfl) T.z_sorted (by decide +kernel) (pa_cons (pe_fld (pv 0) rfl) pa_nil))) (blkOk_by (own := [("client", 1)]) (N := ["self", "client"]) (sc := defScope s_Sessions__rows) (by decide +kernel)) (fun _ _ _ _ _ => pg_name (i := 1) sc_Sessions__rows.nd rfl (Or.inl rfl)) (fun _ _ _ _ _ => pts_nil) (fun _ _ _ _ _ => (pe_tup (pa_cons (pv 1) (pa_cons (pe_dget (by exact hu_of hr) (kfld (K := K) (pv 0)) (pv 1) (fun _ _ => rfl)) (pa_cons (pe_dget (by exact hu_of hr) (kfld (K := K) (pv 0)) (pv 1) (fun _ _ => rfl)) pa_nil)))))))), ?_⟩
  walk_at "rds"
  refine ⟨p, _, dx, _, _, rfl, g, T.cl_Sessions, T.na_Sessions__numbers, rfl, ?_⟩
  walk_at "rds"
  refine ⟨n, _, ks.map (fun k => k.1), rfl, .inl hn, (by exact kvs_keys), by rw [List.length_map]; exact h64, fun ys l hp hs hl => ?_⟩
  walk_at "rds"
  have s1 : Same H (upd H l (.lst (ys.map V.int))) := same_upd hl
  have hl1 : upd H l (.lst (ys.map V.int)) l = some (.lst (ys.map V.int)) := upd_same
  generalize upd H l (.lst (ys.map V.int)) = H1 at s1 hl1
  refine ⟨⟨_, sq hl1⟩, fun D hD => ?_⟩
  refine lc_it (walk_list (K := K) (a := l) (xs := ys.map V.int)) (Pv := fun i H' => ∃ xs, Same H1 H' ∧ H' D = some (.lst xs) ∧ DtAll K H' none xs ((ys.take i).map (rowD ks))) ⟨[], same_upd hD, upd_same, .nil⟩ (fun _ _ _ h => by obtain ⟨_, h, _⟩ := h; exact sq (h _ _ hl1)) (fun i x H6 H7 hi hp2 hy => ?_) (fun H6 hp2 => ?_)
  · obtain ⟨xs, s6, hD6, hx6⟩ := hp2
    obtain ⟨rfl, gx⟩ := hy
    rw [List.length_map] at hi
    rw [List.getElem?_map, List.getElem?_eq_getElem hi] at gx
    obtain rfl : V.int ys[i] = x := Option.some.inj gx
    have hm : ys[i] ∈ ks.map (fun k => k.1) := hp.mem_iff.mp (List.getElem_mem hi)
    obtain ⟨k, hk, ek⟩ := List.mem_map.mp hm
    have gk : gA ks ys[i] = some k.2 := by rw [← ek]; exact gA_mem hok hk
    have e1 : seL ks ys[i] = k.2.1 := by unfold seL; rw [gk]; rfl
    have e2 : seA ks ys[i] = k.2.2 := by unfold seA; rw [gk]; rfl
    have ht : ys.take (i + 1) = ys.take i ++ [ys[i]] := by rw [List.take_add_one, List.getElem?_eq_getElem hi]; rfl
    obtain ⟨⟨dx6, g6⟩, hn6, ha6, _⟩ := se.on (s1.trans s6)
    rw [ht, List.map_append]
    have e3 : rowD ks ys[i] = .tuple [.int ys[i], .int k.2.1, .str k.2.2] := by unfold rowD; rw [e1, e2]
    generalize ys[i] = c at gk e3
    refine ⟨rfl, tyes ?_⟩
    walk_at "rds"
    refine ⟨p, _, dx6, _, _, rfl, g6, T.cl_Sessions, T.na_Sessions__numbers, rfl, ?_⟩
    walk_at "rds"
    refine ⟨n, _, rfl, DGet.k (k := Sum.inl c) hn6 |> (fun h => by unfold numsD at h; rw [gA_kvs inlI, gk] at h; exact h), ?_⟩
    walk_at "rds"
    refine ⟨p, _, dx6, _, _, rfl, g6, T.cl_Sessions, T.na_Sessions__answers, rfl, ?_⟩
    walk_at "rds"
    refine ⟨a, _, rfl, DGet.k (k := Sum.inl c) ha6 |> (fun h => by unfold ansD at h; rw [gA_kvs inlI, gk] at h; exact h), ?_⟩
    walk_at "rds"
    intro t htn
    have hD7 := (same_upd (o := .tup [.int c, .int k.2.1, .str k.2.2]) htn) _ _ hD6
    have hxl : xs.length ≤ i := by rw [hx6.length, List.length_map, List.length_take]; omega
    refine ⟨xs, hD7, sz1000' (by have := hp.length_eq; rw [List.length_map] at this; omega), xs ++ [.ref t], same_mut (s6.trans (same_upd htn)) hD, upd_same, ?_⟩
    have hdt : Dt K (upd H7 t (.tup [.int c, .int k.2.1, .str k.2.2])) none (.ref t) (rowD ks c) := by
      rw [e3]
      exact .tup (.inl upd_same) (.cons (.int _) (.cons (.int _) (.cons (.str _ (by have := hz k hk; omega)) .nil)))
    refine DtAll.keep (tp_put hD7) _ _ (noLs_all fun d hd => ?_) ((hx6.on (same_upd htn)).snoc hdt)
    rcases List.mem_append.mp hd with hd | hd
    · obtain ⟨z, _, rfl⟩ := List.mem_map.mp hd; rfl
    · rw [List.mem_singleton.mp hd]; rfl
  · obtain ⟨xs, s6, hD6, hx6⟩ := hp2
    rw [List.length_map, List.take_of_length_le (Nat.le_refl _)] at hx6
    exact q ys xs H6 D hp hs (s1.trans s6) (same_none s1 hD) hD6 hx6
end

/-! ### the law -/
/-- the model: a dict from the clients to tuples -/
def mdD (es : List (Int × (Addr × Int × Str))) : List (Key × V) := kvs Sum.inl (fun x => V.ref x.1) es
def ksOf (es : List (Int × (Addr × Int × Str))) : SD := es.map fun e => (e.1, e.2.2)
def MdAt (H : Hp) (M : Addr) (es : List (Int × (Addr × Int × Str))) : Prop := H M = some (.dK (mdD es)) ∧ ∀ e ∈ es, H e.2.1 = some (.tup [.int e.2.2.1, .str e.2.2.2])
theorem MdAt.on {H H' : Hp} {M : Addr} {es : List (Int × (Addr × Int × Str))} (h : MdAt H M es) (s : Same H H') : MdAt H' M es := ⟨s _ _ h.1, fun e m => s _ _ (h.2 e m)⟩
theorem ksOf_keys (es : List (Int × (Addr × Int × Str))) : (ksOf es).map (fun k => k.1) = es.map (fun k => k.1) := by unfold ksOf; rw [List.map_map]; rfl
theorem gA_ksOf : ∀ (es : List (Int × (Addr × Int × Str))) (c : Int), gA (ksOf es) c = (gA es c).map (·.2)
  | [], _ => rfl
  | e :: r, c => by
    have ih := gA_ksOf r c
    unfold gA ksOf at ih ⊢
    rw [List.map_cons, List.find?_cons, List.find?_cons]
    by_cases h : e.1 = c
    · rw [decide_eq_true h]
      rfl
    · rw [decide_eq_false h]; exact ih
theorem pA_ksOf (es : List (Int × (Addr × Int × Str))) (c : Int) (x : Addr × Int × Str) : ksOf (pA es c x) = pA (ksOf es) c x.2 := by
  unfold pA ksOf
  rw [List.any_map]
  have : ((fun k : Int × Int × Str => decide (k.1 = c)) ∘ fun e : Int × (Addr × Int × Str) => (e.1, e.2.2)) = fun k => decide (k.1 = c) := rfl
  rw [this]
  split
  · rw [List.map_map, List.map_map]
    refine List.map_congr_left fun k _ => ?_
    show (fun e : Int × (Addr × Int × Str) => (e.1, e.2.2)) (if k.1 = c then (k.1, x) else k) = if k.1 = c then (k.1, x.2) else (k.1, k.2.2)
    split <;> rfl
  · rw [List.map_append]; rfl
def spRich : Sp := fun vs H Q _ => ∃ (c k : Int), vs = [.int c, .int k] ∧ 0 ≤ k ∧ k ≤ 100 ∧ ∀ r : Int, Q (.int r) H
def spLCall (C : Addr) : Sp := fun vs H Q _ => ∃ (p n a : Addr) (ks : SD) (c m : Int) (z : Str), vs = [.ref p, .int c, .int m, .str z] ∧ SeAt C H p n a ks ∧ ks.length ≤ 1000 ∧
  (seL ks c < m → ∀ H' t, But2 n a H H' → SeAt C H' p n a (pA ks c (m, z)) → H' t = some (.tup [.str "", .int 0]) → Q (.ref t) H') ∧
  (m ≤ seL ks c → ∀ H' t, Same H H' → H' t = some (.tup [.str "number", .int 0]) → Q (.ref t) H')
/-- the clients, and the answers, that the law draws -/
def okK (ks : SD) : Prop := ks.length < 64 ∧ kOk ks ∧ ∀ k ∈ ks, k.1 ≠ -7 ∧ k.2.2.length ≤ 1000 ∧ PyData.strOk k.2.2 = true
def spSameS (C : Addr) : Sp := fun vs H Q _ => ∃ (p n a M : Addr) (es : List (Int × (Addr × Int × Str))), vs = [.ref p, .ref M] ∧ SeAt C H p n a (ksOf es) ∧ MdAt H M es ∧ okK (ksOf es) ∧ ∀ H', Same H H' → Q (.bl true) H'
section
variable {P : Program} {w : World} {K : PySem.W.Frag} {mg : Str → Option Value} {base : Heap}
theorem c__law_rich {C_Sessions : Addr} {C_BadCommand : Addr} (T : Txt K mg C_Sessions C_BadCommand) : Cal P w K mg base 1 "_law_rich" spRich [] := by
  refine cal T.d__law_rich sc__law_rich (fun vs H Q E h => ?_) (fun f cdv A' outer s H vs Q E hr h => ?_)
  · obtain ⟨c, k, rfl, _⟩ := h; rfl
  obtain ⟨c, k, rfl, hk0, hk1, q⟩ := h
  refine ⟨_, (pss_cons (ps_if (pt_cmpR op_ge (pv 0) (pe_op op_pow pe_int pe_int) (nomark _)) (pss_one (ps_ret (pe_callTy call_int1 (by rfl) T.z_int (by decide +kernel) (pa_cons (pv 0) pa_nil)))) pss_nil)
      (pss_cons (ps_set (i := 2) sc__law_rich.nd rfl (Or.inl rfl) (pe_op op_mod (pe_callTy call_int1 (by rfl) T.z_int (by decide +kernel) (pa_cons (pe_op op_add (pe_op op_add (pe_op op_mul (pv 0) pe_int) (pe_op op_mul (pv 1) pe_int)) pe_int) pa_nil)) pe_int))
      (pss_one (ps_ret (pe_op op_add (pe_op op_mul (pv 2) pe_int) (pe_op op_mod (pe_callTy call_int1 (by rfl) T.z_int (by decide +kernel) (pa_cons (pe_op op_add (pe_op op_mul (pv 2) pe_int) (pv 0)) pa_nil)) pe_int)))))), ?_⟩
  walk_at "rds"
  refine ite2 (fun _ => ?_) (fun _ => ?_)
  · walk_at "rds"
    exact q _
  · walk_at "rds"
    exact q _
theorem c__law_call {C_Sessions : Addr} {C_BadCommand : Addr} (T : Txt K mg C_Sessions C_BadCommand) : Cal P w K mg base 4 "_law_call" (spLCall C_Sessions) [] := by
  have m_Sessions__remember := m_Sessions__remember (P := P) (w := w) (base := base) T
  refine cal T.d__law_call sc__law_call (fun vs H Q E h => ?_) (fun f cdv A' outer s H vs Q E hr h => ?_)
  · obtain ⟨p, n, a, ks, c, m, z, rfl, _⟩ := h; rfl
  obtain ⟨p, n, a, ks, c, m, z, rfl, se, hl, q, qe⟩ := h
  obtain ⟨⟨dx, g⟩, hn, ha, hna⟩ := id se
  refine ⟨_, (pss_cons (ps_try_as (i := 4) (Wout := fun _ _ _ _ => False) rfl rfl sc__law_call.nd rfl rfl ⟨by rfl, by decide, .inl T.x_BadCommand.g⟩ takes0 (fun W pn xe tk po => (pss_one (ps_expr (pe_mtX m_Sessions__remember hr (by decide) (fun σ => passAt tk σ) (pv 0) (pa_cons (pv 1) (pa_cons (pv 2) (pa_cons (pv 3) pa_nil))))))) (fun a oe cls d pn hz hf => (pss_one (ps_ret (pe_tup (pa_cons (pe_xf T.x_BadCommand.xf T.xn_BadCommand_reason hz hf (pv 4)) (pa_cons (pe_xf T.x_BadCommand.xf T.xn_BadCommand_statement hz hf (pv 4)) pa_nil)))))))
      (pss_one (ps_ret (pe_tup (pa_cons pe_str (pa_cons pe_int pa_nil)))))), ?_⟩
  walk_at "rds"
  refine ⟨p, dx, _, rfl, g, rfl, ?_⟩
  walk_at "rds"
  refine ⟨p, n, a, ks, c, m, z, rfl, se, hl, fun e H' bu se' => ?_, fun e H' d s1 hd => ?_⟩
  · walk_at "rds"
    intro t ht
    refine q e _ t (fun b o n1 n2 e => (same_upd ht) _ _ (bu _ _ n1 n2 e)) (se'.on (same_upd ht)) upd_same
  · refine ⟨true, T.x_BadCommand.exm T.u_BadCommand_BadCommand, fun _ b hb => ?_, fun z => nomatch z⟩
    walk_at "rds"
    refine ⟨rfl, rfl, d, _, _, rfl, hd, rfl, ?_⟩
    walk_at "rds"
    refine ⟨rfl, rfl, d, _, _, rfl, hd, rfl, ?_⟩
    walk_at "rds"
    intro t ht
    exact qe e _ t (s1.trans (same_upd ht)) upd_same
/-- where the law stands: H at its beginning, H' now -/
structure LS (C : Addr) (H H' : Hp) (p n an M p2 n2 a2 Kd : Addr) (ks : SD) (es es2 : List (Int × (Addr × Int × Str))) : Prop where
  sm : Same H H'
  hn : H n = none
  han : H an = none
  hM : H M = none
  se : SeAt C H' p n an ks
  md : MdAt H' M es
  ok : okK ks
  se2 : SeAt C H' p2 n2 a2 (ksOf es2)
  md2 : MdAt H' Kd es2
  ok2 : okK (ksOf es2)
  d1 : n ≠ n2
  d2 : n ≠ a2
  d3 : an ≠ n2
  d4 : an ≠ a2
  d5 : n ≠ Kd
  d6 : an ≠ Kd
  d7 : n ≠ M
  d8 : an ≠ M
  d9 : M ≠ n2
  d10 : M ≠ a2
  d11 : M ≠ Kd
theorem LS.on {C : Addr} {H H' H2 : Hp} {p n an M p2 n2 a2 Kd : Addr} {ks : SD} {es es2 : List (Int × (Addr × Int × Str))} (h : LS C H H' p n an M p2 n2 a2 Kd ks es es2) (s : Same H' H2) : LS C H H2 p n an M p2 n2 a2 Kd ks es es2 :=
  { h with sm := h.sm.trans s, se := h.se.on s, md := h.md.on s, se2 := h.se2.on s, md2 := h.md2.on s }
/-- the sessions have changed -/
theorem LS.rem {C : Addr} {H H' H2 : Hp} {p n an M p2 n2 a2 Kd : Addr} {ks ks' : SD} {es es2 : List (Int × (Addr × Int × Str))} (h : LS C H H' p n an M p2 n2 a2 Kd ks es es2) (b : But2 n an H' H2) (se : SeAt C H2 p n an ks') (ok : okK ks') : LS C H H2 p n an M p2 n2 a2 Kd ks' es es2 := by
  obtain ⟨_, hn, ha, _⟩ := h.se
  have tup : ∀ a xs, H' a = some (.tup xs) → H2 a = some (.tup xs) := fun a xs e => b _ _ (ne_of e hn (by intro z; cases z)) (ne_of e ha (by intro z; cases z)) e
  obtain ⟨⟨dx, g⟩, g2, g3, g4⟩ := h.se2
  exact { h with
    sm := fun x o e => b _ _ (ne_of_none e h.hn) (ne_of_none e h.han) (h.sm _ _ e)
    se := se
    ok := ok
    md := ⟨b _ _ h.d7.symm h.d8.symm h.md.1, fun e m => tup _ _ (h.md.2 e m)⟩
    md2 := ⟨b _ _ h.d5.symm h.d6.symm h.md2.1, fun e m => tup _ _ (h.md2.2 e m)⟩
    se2 := ⟨⟨dx, b _ _ (ne_of g hn (by intro z; cases z)) (ne_of g ha (by intro z; cases z)) g⟩, b _ _ h.d1.symm h.d3.symm g2, b _ _ h.d2.symm h.d4.symm g3, g4⟩ }
/-- the model has changed -/
theorem LS.put {C : Addr} {H H' : Hp} {p n an M p2 n2 a2 Kd : Addr} {ks : SD} {es es' es2 : List (Int × (Addr × Int × Str))} (h : LS C H H' p n an M p2 n2 a2 Kd ks es es2) (ht : ∀ e ∈ es', H' e.2.1 = some (.tup [.int e.2.2.1, .str e.2.2.2])) : LS C H (upd H' M (.dK (mdD es'))) p n an M p2 n2 a2 Kd ks es' es2 := by
  have hM := h.md.1
  have tup : ∀ a xs, H' a = some (.tup xs) → upd H' M (.dK (mdD es')) a = some (.tup xs) := fun a xs e => by rw [upd_ne (ne_of e hM (by intro z; cases z))]; exact e
  obtain ⟨⟨dx, g⟩, g2, g3, g4⟩ := h.se2
  obtain ⟨⟨dx1, f⟩, f2, f3, f4⟩ := h.se
  exact { h with
    sm := same_mut h.sm h.hM
    se := ⟨⟨dx1, by rw [upd_ne (ne_of f hM (by intro z; cases z))]; exact f⟩, by rw [upd_ne h.d7]; exact f2, by rw [upd_ne h.d8]; exact f3, f4⟩
    md := ⟨upd_same, fun e m => tup _ _ (ht e m)⟩
    md2 := ⟨by rw [upd_ne h.d11.symm]; exact h.md2.1, fun e m => tup _ _ (h.md2.2 e m)⟩
    se2 := ⟨⟨dx, by rw [upd_ne (ne_of g hM (by intro z; cases z))]; exact g⟩, by rw [upd_ne h.d9.symm]; exact g2, by rw [upd_ne h.d10.symm]; exact g3, g4⟩ }
theorem okK_put {ks : SD} {c m : Int} {z : Str} (h : okK ks) (hl : ks.length < 63) (hc : c ≠ -7) (hz : z.length ≤ 1000) (hs : PyData.strOk z = true) : okK (pA ks c (m, z)) := by
  obtain ⟨_, h2, h3⟩ := h
  refine ⟨by have := pA_len ks c (m, z); omega, pA_ok c (m, z) h2, fun k hk => ?_⟩
  rcases pA_mem hk with rfl | ⟨hk, _⟩
  · exact ⟨hc, hz, hs⟩
  · exact h3 k hk
theorem rows_lay {ks : SD} (hs : ∀ k ∈ ks, PyData.strOk k.2.2 = true) (hk : kOk ks) : ∀ ys : List Int, (∀ y ∈ ys, y ∈ ks.map (fun k => k.1)) → PyData.canLayAll0 (ys.map (rowD ks)) = true ∧ PyData.depthAll (ys.map (rowD ks)) ≤ 1
  | [], _ => ⟨by simp [PyData.canLayAll0], by simp [PyData.depthAll]⟩
  | y :: r, h => by
    obtain ⟨i1, i2⟩ := rows_lay hs hk r (fun z hz => h z (List.mem_cons_of_mem _ hz))
    obtain ⟨k, hkm, ek⟩ := List.mem_map.mp (h y List.mem_cons_self)
    have gk : gA ks y = some k.2 := by rw [← ek]; exact gA_mem hk hkm
    have e2 : seA ks y = k.2.2 := by unfold seA; rw [gk]; rfl
    rw [List.map_cons]
    constructor
    · rw [PyData.canLayAll0, i1]; simp [rowD, PyData.canLay0, PyData.canLayAll0, e2, hs k hkm]
    · rw [PyData.depthAll]
      have : (rowD ks y).depth ≤ 1 := by simp [rowD, PyData.depth, PyData.depthAll]
      omega
theorem c__law_same {C_Sessions : Addr} {C_BadCommand : Addr} (T : Txt K mg C_Sessions C_BadCommand) : Cal P w K mg base 2 "_law_same" (spSameS C_Sessions) [] := by
  have m_Sessions__rows := m_Sessions__rows (P := P) (w := w) (base := base) T
  have m_Sessions__numbers := m_Sessions__numbers (P := P) (w := w) (base := base) T
  have m_Sessions__last := m_Sessions__last (P := P) (w := w) (base := base) T
  have m_Sessions__answer := m_Sessions__answer (P := P) (w := w) (base := base) T
  refine cal T.d__law_same sc__law_same (fun vs H Q E h => ?_) (fun f cdv A' outer s H vs Q E hr h => ?_)
  · obtain ⟨p, n, a, M, es, rfl, _⟩ := h; rfl
  obtain ⟨p, n, a, M, es, rfl, se, md, ⟨h64, hok, hall⟩, q⟩ := h
  have hel : es.length < 64 := by unfold ksOf at h64; rw [List.length_map] at h64; exact h64
  refine ⟨_, (pss_cons (ps_setLc (i := 2) (own := [("client", 4)]) (g := gName 4) rfl sc__law_same.nd rfl rfl (sw_true rfl rfl rfl (by decide +kernel)) (pi_list (pe_callB (call_sortedDI rfl) (by rfl) T.z_sorted (by decide +kernel) (pa_cons (pv 1) pa_nil))) (blkOk_by (own := [("client", 4)]) (N := ["sessions", "model", "rows", "numbers", "client", "number", "answer"]) (sc := defScope s__law_same) (by decide +kernel)) (fun _ _ _ _ _ => pg_name (i := 4) sc__law_same.nd rfl (Or.inl rfl)) (fun _ _ _ _ _ => pts_nil) (fun _ _ _ _ _ => (pe_tup (pa_cons (pv 4) (pa_cons (pe_ix (kixt (K := K)) (pe_dget (by exact hu_of hr) (pv 1) (pv 4) (fun _ _ => rfl)) pe_int (fun _ _ => rfl)) (pa_cons (pe_ix (kixt (K := K)) (pe_dget (by exact hu_of hr) (pv 1) (pv 4) (fun _ _ => rfl)) pe_int (fun _ _ => rfl)) pa_nil))))))
      (pss_cons (ps_if (pt_cmpR (op_neD hr.units) (pe_mt0 m_Sessions__rows hr (by decide) (pv 0)) (pv 2) (nomark _)) (pss_one (ps_ret pe_bl)) pss_nil)
      (pss_cons (ps_set (i := 3) sc__law_same.nd rfl (Or.inl rfl) (pe_mt0 m_Sessions__numbers hr (by decide) (pv 0)))
      (pss_cons (ps_if (PW.pt (pw_or (pt_not (pt_val (pe_callB (kisi (K := K)) (by rfl) T.z_isinstance (by decide +kernel) (pa_cons (pv 3) (pa_cons (pe_bltn (v := .ty "dict") (by rfl) T.z_dict (by decide +kernel) rfl) pa_nil))))) (pw_or1 (pt_cmpR op_ne (pe_callB call_lenD (by rfl) T.z_len (by decide +kernel) (pa_cons (pv 3) pa_nil)) (pe_callB call_lenD (by rfl) T.z_len (by decide +kernel) (pa_cons (pv 1) pa_nil)) (nomark _))))) (pss_one (ps_ret pe_bl)) pss_nil)
      (pss_cons (ps_for PassesOwn.never rfl (pi_list (pv 2)) (pg_tup (by rfl) (pgs_cons (pg_name (i := 4) sc__law_same.nd rfl (Or.inl rfl)) (pgs_cons (pg_name (i := 5) sc__law_same.nd rfl (Or.inl rfl)) (pgs_cons (pg_name (i := 6) sc__law_same.nd rfl (Or.inl rfl)) pgs_nil)))) (pss_cons (ps_if (PW.pt (pw_or (pt_cmp (pc_dnotin (by exact hu_of hr) (pv 4) (pv 3))) (pw_or1 (pt_cmpR op_ne (pe_dget (by exact hu_of hr) (pv 3) (pv 4) (fun _ _ => rfl)) (pv 5) (nomark _))))) (pss_one (ps_ret pe_bl)) pss_nil)
      (pss_one (ps_if (PW.pt (pw_or (pt_cmpR op_ne (pe_mt m_Sessions__last hr (by decide) (pv 0) (pa_cons (pv 4) pa_nil)) (pv 5) (nomark _)) (pw_or1 (pt_cmpR op_ne (pe_mt m_Sessions__answer hr (by decide) (pv 0) (pa_cons (pv 4) pa_nil)) (pv 6) (nomark _))))) (pss_one (ps_ret pe_bl)) pss_nil))))
      (pss_cons (ps_dput (hu_of hr) (pv 3) (pe_un un_neg pe_int) pe_int rfl)
      (pss_one (ps_ret (pe_and (pe_cmpR op_eq (pe_mt m_Sessions__last hr (by decide) (pv 0) (pa_cons (pe_un un_neg pe_int) pa_nil)) pe_int (nomark _)) (pe_and (pe_cmpR op_eq (pe_mt m_Sessions__answer hr (by decide) (pv 0) (pa_cons (pe_un un_neg pe_int) pa_nil)) pe_str (nomark _)) (pe_one (pe_cmpR op_eq (pe_callB call_lenD (by rfl) T.z_len (by decide +kernel) (pa_cons (pe_mt0 m_Sessions__numbers hr (by decide) (pv 0)) pa_nil)) (pe_callB call_lenD (by rfl) T.z_len (by decide +kernel) (pa_cons (pv 1) pa_nil)) (nomark _))))))))))))), ?_⟩
  walk_at "rds"
  refine ⟨M, _, es.map (fun k => k.1), rfl, .inl md.1, (by exact kvs_keys), by rw [List.length_map]; exact hel, fun ys l hp hs hl => ?_⟩
  walk_at "rds"
  have s1 : Same H (upd H l (.lst (ys.map V.int))) := same_upd hl
  have hl1 : upd H l (.lst (ys.map V.int)) l = some (.lst (ys.map V.int)) := upd_same
  generalize upd H l (.lst (ys.map V.int)) = H1 at s1 hl1
  have hp' : ys.Perm ((ksOf es).map (fun k => k.1)) := by rw [ksOf_keys]; exact hp
  refine ⟨⟨_, sq hl1⟩, fun D hD => ?_⟩
  refine lc_it (walk_list (K := K) (a := l) (xs := ys.map V.int)) (Pv := fun i H' => ∃ xs, Same H1 H' ∧ H' D = some (.lst xs) ∧ DtAll K H' none xs ((ys.take i).map (rowD (ksOf es)))) ⟨[], same_upd hD, upd_same, .nil⟩ (fun _ _ _ h => by obtain ⟨_, h, _⟩ := h; exact sq (h _ _ hl1)) (fun i x H6 H7 hi hp2 hy => ?_) (fun H6 hp2 => ?_)
  · obtain ⟨xs, s6, hD6, hx6⟩ := hp2
    obtain ⟨rfl, gx⟩ := hy
    rw [List.length_map] at hi
    rw [List.getElem?_map, List.getElem?_eq_getElem hi] at gx
    obtain rfl : V.int ys[i] = x := Option.some.inj gx
    have hm : ys[i] ∈ es.map (fun k => k.1) := hp.mem_iff.mp (List.getElem_mem hi)
    obtain ⟨k, hk, ek⟩ := List.mem_map.mp hm
    have hoke : kOk es := by unfold kOk at hok ⊢; rw [ksOf_keys] at hok; exact hok
    have gk : gA es ys[i] = some k.2 := by rw [← ek]; exact gA_mem hoke hk
    have gk2 : gA (ksOf es) ys[i] = some k.2.2 := by rw [gA_ksOf, gk]; rfl
    have e1 : seL (ksOf es) ys[i] = k.2.2.1 := by unfold seL; rw [gk2]; rfl
    have e2 : seA (ksOf es) ys[i] = k.2.2.2 := by unfold seA; rw [gk2]; rfl
    have hz := hall (k.1, k.2.2) (List.mem_map_of_mem hk)
    have ht : ys.take (i + 1) = ys.take i ++ [ys[i]] := by rw [List.take_add_one, List.getElem?_eq_getElem hi]; rfl
    have md7 := md.on (s1.trans s6)
    have hkt := md7.2 k hk
    rw [ht, List.map_append]
    have e3 : rowD (ksOf es) ys[i] = .tuple [.int ys[i], .int k.2.2.1, .str k.2.2.2] := by unfold rowD; rw [e1, e2]
    generalize ys[i] = c at gk e3
    refine ⟨rfl, tyes ?_⟩
    walk_at "rds"
    refine ⟨M, _, rfl, DGet.k (k := Sum.inl c) md7.1 |> (fun h => by unfold mdD at h; rw [gA_kvs inlI, gk] at h; exact h), ?_⟩
    walk_at "rds"
    refine ⟨k.2.1, _, 0, _, rfl, rfl, SqT.of hkt, atI_nat (j := 0) rfl, ?_⟩
    walk_at "rds"
    refine ⟨M, _, rfl, DGet.k (k := Sum.inl c) md7.1 |> (fun h => by unfold mdD at h; rw [gA_kvs inlI, gk] at h; exact h), ?_⟩
    walk_at "rds"
    refine ⟨k.2.1, _, 1, _, rfl, rfl, SqT.of hkt, atI_nat (j := 1) rfl, ?_⟩
    walk_at "rds"
    intro t htn
    have hD7 := (same_upd (o := .tup [.int c, .int k.2.2.1, .str k.2.2.2]) htn) _ _ hD6
    have hxl : xs.length ≤ i := by rw [hx6.length, List.length_map, List.length_take]; omega
    refine ⟨xs, hD7, sz1000' (by have := hp.length_eq; rw [List.length_map] at this; omega), xs ++ [.ref t], same_mut (s6.trans (same_upd htn)) hD, upd_same, ?_⟩
    have hdt : Dt K (upd H7 t (.tup [.int c, .int k.2.2.1, .str k.2.2.2])) none (.ref t) (rowD (ksOf es) c) := by
      rw [e3]
      exact .tup (.inl upd_same) (.cons (.int _) (.cons (.int _) (.cons (.str _ (by have := hz.2.1; show k.2.2.2.length ≤ 1000000; exact Nat.le_trans this (by decide))) .nil)))
    refine DtAll.keep (tp_put hD7) _ _ (noLs_all fun d hd => ?_) ((hx6.on (same_upd htn)).snoc hdt)
    rcases List.mem_append.mp hd with hd | hd
    · obtain ⟨z, _, rfl⟩ := List.mem_map.mp hd; rfl
    · rw [List.mem_singleton.mp hd]; rfl
  obtain ⟨rs, s6, hR, hx⟩ := hp2
  rw [List.length_map, List.take_of_length_le (Nat.le_refl _)] at hx
  have s2 := s1.trans s6
  have se2 := se.on s2
  obtain ⟨⟨dx2, g2⟩, _⟩ := id se2
  walk_at "rds"
  refine ⟨p, dx2, _, rfl, g2, rfl, ?_⟩
  walk_at "rds"
  refine ⟨p, n, a, ksOf es, rfl, se2, h64, hok, fun k hk => (hall k hk).2.1, fun ys2 xs2 H3 r hp3 hs3 s3 hr3 hr4 hx3 => ?_⟩
  have eys : ys2 = ys := PySem.W.ksm_same (hp3.trans hp'.symm) hs3 hs
  subst eys
  obtain ⟨l1, l2⟩ := rows_lay (fun k hk => (hall k hk).2.2) hok ys2 (fun y hy => hp'.mem_iff.mp hy)
  have lay : (PyData.list (ys2.map (rowD (ksOf es)))).canLay0 = true := by rw [PyData.canLay0]; exact l1
  have sh : SeqAt.shaped (.list (ys2.map (rowD (ksOf es)))) = true := by
    unfold SeqAt.shaped
    rw [lay, decide_eq_true (by rw [PyData.depth]; omega)]; rfl
  walk_at "rds"
  refine ⟨.list _, .list _, .lst (sq hr4) (DtAll.dp _ _ hx3), .lst (sq (s3 _ _ hR)) (DtAll.dp _ _ (hx.on s3)), sh, sh, ?_⟩
  rw [SeqAt.eqv_refl _ lay]
  walk_at "rds"
  have s4 := s2.trans s3
  have se4 := se.on s4
  obtain ⟨⟨dx4, g4⟩, _⟩ := id se4
  refine ⟨p, dx4, _, rfl, g4, rfl, ?_⟩
  walk_at "rds"
  refine ⟨p, n, a, ksOf es, rfl, se4, fun N hN => ?_⟩
  have s5 : Same H (upd H3 N (.dK (numsD (ksOf es)))) := s4.trans (same_upd hN)
  have hN5 : upd H3 N (.dK (numsD (ksOf es))) N = some (.dK (numsD (ksOf es))) := upd_same
  have hN0 : H N = none := same_none s4 hN
  have hR5 := (same_upd (o := .dK (numsD (ksOf es))) hN) _ _ (s3 _ _ hR)
  have hx5 := (hx.on s3).on (same_upd (o := .dK (numsD (ksOf es))) hN)
  generalize upd H3 N (.dK (numsD (ksOf es))) = H5 at s5 hN5 hR5 hx5
  have md5 := md.on s5
  have se5 := se.on s5
  obtain ⟨⟨dx5, g5⟩, _⟩ := id se5
  walk_at "rds"
  walk_at "isi"
  walk_at "rds"
  refine ⟨N, _, rfl, hN5, ?_⟩
  walk_at "rds"
  refine ⟨M, _, rfl, md5.1, ?_⟩
  walk_at "rds"
  have el : (numsD (ksOf es)).length = (mdD es).length := by unfold numsD mdD ksOf; rw [kvs_len, kvs_len, List.length_map]
  refine ifF (by show (!decide (V.int ((numsD (ksOf es)).length : Int) = V.int ((mdD es).length : Int))) = false; rw [el, decide_eq_true rfl]; rfl) ?_
  walk_at "rds"
  refine ⟨⟨rs, sq hR5⟩, ?_⟩
  refine for_it (walk_list (K := K) (a := D) (xs := rs)) (Pv := fun i σ' H' => H' = H5 ∧ ∃ y4 y5 y6, σ' = [some (.ref p), some (.ref M), some (.ref D), some (.ref N), y4, y5, y6]) ⟨rfl, none, none, none, rfl⟩ (fun i σ H' _ h => by rw [h.1]; exact sq hR5) (fun i x σ' H6 H7 hi hp2 hy => ?_) (fun σ' H6 hp2 => ?_)
  · obtain ⟨rfl, y4, y5, y6, rfl⟩ := hp2
    obtain ⟨rfl, gx⟩ := hy
    obtain ⟨d, gd, hdx⟩ := hx5.get gx
    rw [List.getElem?_map, Option.map_eq_some_iff] at gd
    obtain ⟨c, gc, rfl⟩ := gd
    obtain ⟨k, hk, ek⟩ := List.mem_map.mp (hp'.mem_iff.mp (List.mem_of_getElem? gc))
    have gk : gA (ksOf es) c = some k.2 := by rw [← ek]; exact gA_mem hok hk
    have e1 : seL (ksOf es) c = k.2.1 := by unfold seL; rw [gk]; rfl
    have e2 : seA (ksOf es) c = k.2.2 := by unfold seA; rw [gk]; rfl
    unfold rowD at hdx
    obtain ⟨t, x1, x2, x3, rfl, ht, h1, h2, h3⟩ := hdx.three
    cases h1; cases h2; cases h3
    refine ⟨t, _, rfl, ht.sq, rfl, _, _, rfl, _, _, rfl, _, _, rfl, rfl, ?_⟩
    walk_at "rds"
    have hg : valV (numsD (ksOf es)) (Sum.inl c) = some (V.int k.2.1) := by unfold numsD; rw [gA_kvs inlI, gk]; rfl
    have hG : DGet H7 N (.int c) (some (V.int k.2.1)) := by rw [← hg]; exact DGet.k (k := Sum.inl c) hN5
    refine ⟨N, _, rfl, hG, ?_⟩
    walk_at "rds"
    refine ⟨N, _, rfl, hG, ?_⟩
    walk_at "rds"
    refine ifF (by show (!decide (V.int k.2.1 = V.int (seL (ksOf es) c))) = false; rw [e1, decide_eq_true rfl]; rfl) ?_
    walk_at "rds"
    refine ⟨p, dx5, _, rfl, g5, rfl, ?_⟩
    walk_at "rds"
    refine ⟨p, n, a, ksOf es, c, rfl, se5, ?_⟩
    walk_at "rds"
    refine ifF (by show (!decide (V.int (seL (ksOf es) c) = V.int (seL (ksOf es) c))) = false; rw [decide_eq_true rfl]; rfl) ?_
    walk_at "rds"
    refine ⟨p, dx5, _, rfl, g5, rfl, ?_⟩
    walk_at "rds"
    refine ⟨p, n, a, ksOf es, c, rfl, se5, ?_⟩
    walk_at "rds"
    refine ifF (by show (!decide (V.str (seA (ksOf es) c) = V.str (seA (ksOf es) c))) = false; rw [decide_eq_true rfl]; rfl) ?_
    walk_at "rds"
    exact ⟨rfl, _, _, _, rfl⟩
  · obtain ⟨rfl, y4, y5, y6, rfl⟩ := hp2
    walk_at "rds"
    have hn7 : gA (ksOf es) (-7) = none := gA_none.mpr (fun m => by
      obtain ⟨k, hk, ek⟩ := List.mem_map.mp m
      exact (hall k hk).1 ek)
    have e1 : seL (ksOf es) (-7) = 0 := by unfold seL; rw [hn7]; rfl
    have e2 : seA (ksOf es) (-7) = Str.ofString "" := by unfold seA; rw [hn7]; rfl
    refine ⟨N, _, rfl, DPut.k (k := Sum.inl (-7)) hN5 (by unfold numsD; rw [kvs_len]; exact sz1000' (by omega)), ?_⟩
    have s6 : Same H (upd H6 N (.dK (putK (numsD (ksOf es)) (Sum.inl (-7)) (.int 1)))) := same_mut s5 hN0
    generalize upd H6 N (.dK (putK (numsD (ksOf es)) (Sum.inl (-7)) (.int 1))) = H8 at s6
    have se8 := se.on s6
    have md8 := md.on s6
    obtain ⟨⟨dx8, g8⟩, _⟩ := id se8
    walk_at "rds"
    refine ⟨p, dx8, _, rfl, g8, rfl, ?_⟩
    walk_at "rds"
    refine ⟨p, n, a, ksOf es, -7, rfl, se8, ?_⟩
    walk_at "rds"
    refine ifT (by show decide (V.int (seL (ksOf es) (-7)) = V.int 0) = true; rw [e1]; rfl) ?_
    walk_at "rds"
    refine ⟨p, dx8, _, rfl, g8, rfl, ?_⟩
    walk_at "rds"
    refine ⟨p, n, a, ksOf es, -7, rfl, se8, ?_⟩
    walk_at "rds"
    refine ifT (by show decide (V.str (seA (ksOf es) (-7)) = V.str (Str.ofString "")) = true; rw [e2, decide_eq_true rfl]) ?_
    walk_at "rds"
    refine ⟨p, dx8, _, rfl, g8, rfl, ?_⟩
    walk_at "rds"
    refine ⟨p, n, a, ksOf es, rfl, se8, fun N2 hN2 => ?_⟩
    walk_at "rds"
    refine ⟨N2, _, rfl, upd_same, ?_⟩
    walk_at "rds"
    refine ⟨M, _, rfl, (same_upd hN2) _ _ md8.1, ?_⟩
    walk_at "rds"
    rw [el, decide_eq_true rfl]
    exact q _ (s6.trans (same_upd hN2))
theorem ok_law {C_Sessions : Addr} {C_BadCommand : Addr} {f : Addr} {fd : FuncData} (F : L2.Fun K "law" "law" s_law f fd) (T : Txt K mg C_Sessions C_BadCommand) : FnOk P w K mg base L2.CX0 6 f fd ["script"] (spLaw K) := by
  have c__law_rich := c__law_rich (P := P) (w := w) (base := base) T
  have c__law_call := c__law_call (P := P) (w := w) (base := base) T
  have c__law_same := c__law_same (P := P) (w := w) (base := base) T
  have k_Sessions := k_Sessions (P := P) (w := w) (base := base) T
  have m_Sessions__clone := m_Sessions__clone (P := P) (w := w) (base := base) T
  refine F.ok sc_law (fun vs H Q E h => ?_) (fun cdv A outer s H vs Q E hr h => ?_)
  · obtain ⟨a, ns, rfl, _⟩ := h; rfl
  obtain ⟨a, ns, rfl, hS, hlen, q⟩ := h
  refine ⟨_, (pss_cons (ps_set (i := 1) sc_law.nd rfl (Or.inl rfl) (pe_mk0 k_Sessions hr (by decide) (by rfl)))
      (pss_cons (ps_set (i := 2) sc_law.nd rfl (Or.inl rfl) pe_dnewK)
      (pss_cons (ps_set (i := 3) sc_law.nd rfl (Or.inl rfl) (pe_mt0 m_Sessions__clone hr (by decide) (pv 1)))
      (pss_cons (ps_set (i := 4) sc_law.nd rfl (Or.inl rfl) pe_dnewK)
      (pss_cons (ps_for PassesOwn.never rfl (pi_range1 (by rfl) T.z_range (pa_cons (pe_callB (klen (K := K)) (by rfl) T.z_len (by decide +kernel) (pa_cons (pv 0) pa_nil)) pa_nil)) (pg_name (i := 5) sc_law.nd rfl (Or.inl rfl)) (pss_cons (ps_set (i := 6) sc_law.nd rfl (Or.inl rfl) (pe_c c__law_rich hr (by decide) (by rfl) (pa_cons (pe_ix (kixl (K := K)) (pv 0) (pv 5) (fun _ _ => rfl)) (pa_cons (pv 5) pa_nil))))
      (pss_cons (ps_set (i := 7) sc_law.nd rfl (Or.inl rfl) (pe_ix (kixl (K := K)) (pe_lst (pa_cons (pe_un un_neg pe_int) (pa_cons (pe_un un_neg pe_int) (pa_cons (pe_un un_neg pe_int) (pa_cons (pe_un un_neg pe_int) (pa_cons (pe_un un_neg pe_int) pa_nil)))))) (pe_op op_mod (pv 6) pe_int) (fun _ _ => rfl)))
      (pss_cut (ps_set (i := 8) sc_law.nd rfl (Or.inl rfl) (pe_ifExp (pt_cmp (pc_din (by exact hu_of hr) (pv 7) (pv 2))) (pe_ix (kixt (K := K)) (pe_dget (by exact hu_of hr) (pv 2) (pv 7) (fun _ _ => rfl)) pe_int (fun _ _ => rfl)) pe_int))
      (pss_cons (ps_set (i := 9) sc_law.nd rfl (Or.inl rfl) (pe_callB (call_min2 rfl) (by rfl) T.z_min (by decide +kernel) (pa_cons (pe_op op_pow pe_int pe_int) (pa_cons (pe_callB (call_max2 rfl) (by rfl) T.z_max (by decide +kernel) (pa_cons pe_int (pa_cons (pe_op op_add (pe_op op_sub (pv 8) pe_int) (pe_op op_mod (pe_op op_fdiv (pv 6) pe_int) pe_int)) pa_nil))) pa_nil))))
      (pss_cut (ps_if (pt_cmpR op_eq (pe_op op_mod (pe_op op_fdiv (pv 6) pe_int) pe_int) pe_int (nomark _)) (pss_one (ps_set (i := 9) sc_law.nd rfl (Or.inl rfl) (pe_op op_add pe_int (pe_op op_mod (pe_op op_fdiv (pv 6) pe_int) (pe_op op_pow pe_int pe_int))))) pss_nil)
      (pss_cons (ps_set (i := 10) sc_law.nd rfl (Or.inl rfl) (pe_ix (kixl (K := K)) (pe_lst (pa_cons pe_str (pa_cons pe_str (pa_cons pe_str (pa_cons pe_str pa_nil))))) (pe_op op_mod (pe_op op_fdiv (pv 6) pe_int) pe_int) (fun _ _ => rfl)))
      (pss_cut (ps_set (i := 11) sc_law.nd rfl (Or.inl rfl) (pe_ifExp (pt_cmpR op_gt (pv 9) (pv 8) (nomark _)) (pe_tup (pa_cons pe_str (pa_cons pe_int pa_nil))) (pe_tup (pa_cons pe_str (pa_cons pe_int pa_nil)))))
      (pss_cut (ps_if (pt_cmpR (op_neD hr.units) (pe_c c__law_call hr (by decide) (by rfl) (pa_cons (pv 1) (pa_cons (pv 7) (pa_cons (pv 9) (pa_cons (pv 10) pa_nil))))) (pv 11) (nomark _)) (pss_one (ps_ret pe_bl)) pss_nil)
      (pss_cut (ps_if (pt_cmpR op_gt (pv 9) (pv 8) (nomark _)) (pss_one (ps_dput (hu_of hr) (pv 2) (pv 7) (pe_tup (pa_cons (pv 9) (pa_cons (pv 10) pa_nil))) rfl)) pss_nil)
      (pss_cons (ps_if (PW.pt (pw_or (pt_not (pt_val (pe_c c__law_same hr (by decide) (by rfl) (pa_cons (pv 1) (pa_cons (pv 2) pa_nil))))) (pw_or1 (pt_not (pt_val (pe_c c__law_same hr (by decide) (by rfl) (pa_cons (pv 3) (pa_cons (pv 4) pa_nil)))))))) (pss_one (ps_ret pe_bl)) pss_nil)
      (pss_one (ps_if (pt_cmpR op_eq (pe_op op_mod (pv 5) pe_int) pe_int (nomark _)) (pss_cons (ps_set (i := 3) sc_law.nd rfl (Or.inl rfl) (pe_mt0 m_Sessions__clone hr (by decide) (pv 1)))
      (pss_one (ps_set (i := 4) sc_law.nd rfl (Or.inl rfl) (pe_callTy call_dictD (by rfl) T.z_dict (by decide +kernel) (pa_cons (pv 2) pa_nil))))) pss_nil)))))))))))))
      (pss_one (ps_ret (pe_c c__law_same hr (by decide) (by rfl) (pa_cons (pv 1) (pa_cons (pv 2) pa_nil)))))))))), ?_⟩
  walk_at "rds"
  intro p dx hp hdx hne
  refine ⟨p, dx, rfl, upd_same, fun H1 n an kp hn han se1 => ⟨rfl, ?_⟩⟩
  have s1 : Same H H1 := Same.made hp hdx kp
  walk_at "rds"
  intro M hM
  have sM : Same H1 (upd H1 M (.dK [])) := same_upd hM
  have hMM : upd H1 M (.dK []) M = some (.dK (mdD [])) := upd_same
  have hM0 : H M = none := same_none s1 hM
  have dM := se1.2.1
  have hnM : n ≠ M := ne_of_none se1.2.1 hM
  have hanM : an ≠ M := ne_of_none se1.2.2.1 hM
  generalize upd H1 M (.dK []) = H2 at sM hMM
  have se2 := se1.on sM
  obtain ⟨⟨dx2, g2⟩, _⟩ := id se2
  walk_at "rds"
  refine ⟨p, dx2, _, rfl, g2, rfl, ?_⟩
  walk_at "rds"
  refine ⟨p, n, an, [], rfl, se2, fun H3 p2 n2 a2 s3 hp2 hn2 ha2 se3 => ?_⟩
  walk_at "rds"
  intro Kd hKd
  have sK : Same H3 (upd H3 Kd (.dK [])) := same_upd hKd
  have hKK : upd H3 Kd (.dK []) Kd = some (.dK (mdD [])) := upd_same
  have okE : okK [] := ⟨by decide, List.nodup_nil, fun _ m => nomatch m⟩
  have sH : Same H (upd H (dx) (.own p)) := same_upd hdx
  have sMk : Same H (upd (upd H dx (.own p)) p (.ins C_Sessions dx [])) := sH.trans (same_upd (by rw [upd_ne hne.symm]; exact hp))
  have seM := se2.on s3
  have ls0 : LS C_Sessions H (upd H3 Kd (.dK [])) p n an M p2 n2 a2 Kd [] [] [] :=
    { sm := ((s1.trans sM).trans s3).trans sK, hn := same_none sMk hn, han := same_none sMk han, hM := hM0
      se := seM.on sK, md := ⟨sK _ _ (s3 _ _ hMM), fun _ m => nomatch m⟩, ok := okE, se2 := se3.on sK, md2 := ⟨hKK, fun _ m => nomatch m⟩, ok2 := okE
      d1 := ne_of_none se2.2.1 hn2, d2 := ne_of_none se2.2.1 ha2, d3 := ne_of_none se2.2.2.1 hn2, d4 := ne_of_none se2.2.2.1 ha2
      d5 := ne_of_none seM.2.1 hKd, d6 := ne_of_none seM.2.2.1 hKd, d7 := hnM, d8 := hanM
      d9 := ne_of_none hMM hn2, d10 := ne_of_none hMM ha2, d11 := ne_of_none (s3 _ _ hMM) hKd }
  generalize upd H3 Kd (.dK []) = H4 at ls0
  walk_at "rds"
  refine ⟨a, _, rfl, .inl (ls0.sm.seq hS), ?_⟩
  walk_at "rds"
  refine ⟨by rw [List.length_map]; omega, by rw [List.length_map]; omega, ?_⟩
  refine for_it walk_range (Pv := fun i σ' H' => ∃ p2 n2 a2 Kd es es2 y5 y6 y7 y8 y9 y10 y11, σ' = [some (.ref a), some (.ref p), some (.ref M), some (.ref p2), some (.ref Kd), y5, y6, y7, y8, y9, y10, y11] ∧ LS C_Sessions H H' p n an M p2 n2 a2 Kd (ksOf es) es es2 ∧ es.length ≤ i) ⟨p2, n2, a2, Kd, [], [], none, none, none, none, none, none, none, rfl, ls0, Nat.le_refl _⟩ (fun _ _ _ _ _ => trivial) (fun i x σ' H5 H6 hi hp' hy => ?_) (fun σ' H5 hp' => ?_)
  · obtain ⟨p2, n2, a2, Kd, es, es2, y5, y6, y7, y8, y9, y10, y11, rfl, ls, hel⟩ := hp'
    obtain ⟨rfl, rfl⟩ := hy
    rw [List.length_map] at hi
    have g : (ns.map V.int)[i]? = some (.int ns[i]) := by
      rw [List.getElem?_map, List.getElem?_eq_getElem hi]; rfl
    have e0 : (0 : Int) + (i : Int) = (i : Int) := by omega
    have hksl : (ksOf es).length ≤ i := by unfold ksOf; rw [List.length_map]; exact hel
    walk_at "rds"
    refine ⟨a, _, (i : Int), _, rfl, by show V.int (0 + (i : Int)) = V.int i; rw [e0], ls.sm.seq hS, atI_nat g, ?_⟩
    walk_at "rds"
    refine ⟨_, _, rfl, by omega, by omega, fun r => ?_⟩
    walk_at "rds"
    intro L hL
    walk_at "rds"
    obtain ⟨v, hv, hat⟩ := atI_lt (xs := [V.int (-1), .int (-2), .int (-3), .int (-50), .int (-100)]) (i := r % 5) (by omega) (by show r % 5 < 5; omega)
    have : ∃ c : Int, v = .int c ∧ c ≠ -7 := by
      simp only [List.mem_cons, List.not_mem_nil, or_false] at hv
      rcases hv with rfl | rfl | rfl | rfl | rfl
      · exact ⟨_, rfl, by decide⟩
      · exact ⟨_, rfl, by decide⟩
      · exact ⟨_, rfl, by decide⟩
      · exact ⟨_, rfl, by decide⟩
      · exact ⟨_, rfl, by decide⟩
    obtain ⟨c, rfl, hc7⟩ := this
    refine ⟨L, _, _, _, rfl, rfl, sq upd_same, hat, ?_⟩
    have ls := ls.on (same_upd (o := .lst [V.int (-1), .int (-2), .int (-3), .int (-50), .int (-100)]) hL)
    generalize upd H6 L (.lst [V.int (-1), .int (-2), .int (-3), .int (-50), .int (-100)]) = H7 at ls
    have hkok : kOk es := by have := ls.ok.2.1; unfold kOk at this ⊢; rw [ksOf_keys] at this; exact this
    have eg : valV (mdD es) (Sum.inl c) = (gA es c).map (fun x => V.ref x.1) := by unfold mdD; exact gA_kvs inlI _ _ _
    have egL : ((gA es c).map (fun x => x.2.1)).getD 0 = seL (ksOf es) c := by unfold seL; rw [gA_ksOf]; cases gA es c <;> rfl
    refine ⟨fun σ' H' => H' = H7 ∧ σ' = [some (.ref a), some (.ref p), some (.ref M), some (.ref p2), some (.ref Kd), some (.int i), some (.int r), some (.int c), some (.int (seL (ksOf es) c)), y9, y10, y11], ?_, ?_⟩
    · walk_at "rds"
      refine ⟨M, _, rfl, DGet.k (k := Sum.inl c) ls.md.1, ?_⟩
      rw [eg]
      cases gk : gA es c with
      | none =>
        rw [gk] at egL
        refine ⟨false, rfl, ?_⟩
        refine ifF rfl ?_
        refine ⟨rfl, ?_⟩
        rw [← egL, ← e0]; rfl
      | some x =>
        rw [gk] at egL
        refine ⟨true, rfl, ?_⟩
        refine ifT rfl ?_
        walk_at "rds"
        refine ⟨M, _, rfl, DGet.k (k := Sum.inl c) ls.md.1 |> (fun h => by rw [eg, gk] at h; exact h), ?_⟩
        walk_at "rds"
        refine ⟨x.1, _, 0, _, rfl, rfl, SqT.of (ls.md.2 _ (gA_some gk)), atI_nat (j := 0) rfl, ?_⟩
        refine ⟨rfl, ?_⟩
        rw [← egL, ← e0]; rfl
    rintro σ' H8 ⟨rfl, rfl⟩
    generalize hL : seL (ksOf es) c = la
    walk_at "rds"
    refine ⟨_, _, rfl, ?_⟩
    walk_at "rds"
    refine ⟨_, _, rfl, ?_⟩
    walk_at "rds"
    refine ⟨fun σ' H' => H' = H8 ∧ ∃ m, σ' = [some (.ref a), some (.ref p), some (.ref M), some (.ref p2), some (.ref Kd), some (.int i), some (.int r), some (.int c), some (.int la), some (.int m), y10, y11], ?_, ?_⟩
    · walk_at "rds"
      refine ite2 (fun _ => ?_) (fun _ => ?_)
      · walk_at "rds"
        refine ⟨(by show (0 : Int) < 10 ^ Int.toNat 12; decide), ?_⟩
        walk_at "rds"
        exact ⟨rfl, _, rfl⟩
      · exact ⟨rfl, _, rfl⟩
    rintro σ' H9 ⟨rfl, m, rfl⟩
    walk_at "rds"
    intro L2 hL2
    walk_at "rds"
    obtain ⟨v2, hv2, hat2⟩ := atI_lt (xs := [V.str (Str.ofString "ok"), .str (Str.ofString ""), .str (Str.ofString "ok;5"), .str (Str.ofString "refused 0 owner")]) (i := r / 20 % 4) (by omega) (by show r / 20 % 4 < 4; omega)
    have : ∃ z : Str, v2 = .str z ∧ z.length ≤ 1000 ∧ PyData.strOk z = true := by
      simp only [List.mem_cons, List.not_mem_nil, or_false] at hv2
      rcases hv2 with rfl | rfl | rfl | rfl
      · exact ⟨_, rfl, by decide, by decide +kernel⟩
      · exact ⟨_, rfl, by decide, by decide +kernel⟩
      · exact ⟨_, rfl, by decide, by decide +kernel⟩
      · exact ⟨_, rfl, by decide, by decide +kernel⟩
    obtain ⟨z, rfl, hz1, hz2⟩ := this
    refine ⟨L2, _, _, _, rfl, rfl, sq upd_same, hat2, ?_⟩
    have ls := ls.on (same_upd (o := .lst [V.str (Str.ofString "ok"), .str (Str.ofString ""), .str (Str.ofString "ok;5"), .str (Str.ofString "refused 0 owner")]) hL2)
    generalize upd H9 L2 (.lst [V.str (Str.ofString "ok"), .str (Str.ofString ""), .str (Str.ofString "ok;5"), .str (Str.ofString "refused 0 owner")]) = H10 at ls
    walk_at "rds"
    refine ⟨fun σ' H' => ∃ t, σ' = [some (.ref a), some (.ref p), some (.ref M), some (.ref p2), some (.ref Kd), some (.int i), some (.int r), some (.int c), some (.int la), some (.int m), some (.str z), some (.ref t)] ∧ Same H10 H' ∧ H' t = some (.tup [.str (if la < m then "" else "number"), .int 0]), ?_, ?_⟩
    · walk_at "rds"
      refine ite2 (fun e => ?_) (fun e => ?_)
      · have e : m > la := of_decide_eq_true e
        walk_at "rds"
        intro t ht
        exact ⟨t, rfl, same_upd ht, by rw [upd_same, if_pos e]⟩
      · have e : ¬ la < m := fun h => e (decide_eq_true h)
        walk_at "rds"
        intro t ht
        exact ⟨t, rfl, same_upd ht, by rw [upd_same, if_neg e]⟩
    rintro σ' H11 ⟨t, rfl, s11, ht⟩
    have ls := ls.on s11
    refine ⟨fun σ' H' => σ' = [some (.ref a), some (.ref p), some (.ref M), some (.ref p2), some (.ref Kd), some (.int i), some (.int r), some (.int c), some (.int la), some (.int m), some (.str z), some (.ref t)] ∧ LS C_Sessions H H' p n an M p2 n2 a2 Kd (if la < m then pA (ksOf es) c (m, z) else ksOf es) es es2, ?_, ?_⟩
    · walk_at "rds"
      have dEq : ∀ (s : Str), PyData.strOk s = true → SeqAt.shaped (.tuple [.str s, .int 0]) = true ∧ PyData.eqv (.tuple [.str s, .int 0]) (.tuple [.str s, .int 0]) = true := fun s hs => by
        have l : (PyData.tuple [.str s, .int 0]).canLay0 = true := by simp [PyData.canLay0, PyData.canLayAll0, hs]
        refine ⟨?_, SeqAt.eqv_refl _ l⟩
        unfold SeqAt.shaped
        rw [l, decide_eq_true (by simp [PyData.depth, PyData.depthAll])]; rfl
      have dpT : ∀ (H' : Hp) (t : Addr) (s : Str), H' t = some (.tup [.str s, .int 0]) → Dp K H' (.ref t) (.tuple [.str s, .int 0]) := fun H' t s h => .tup (SqT.of h) (.cons (.str _) (.cons (.int _) .nil))
      refine ⟨p, n, an, ksOf es, c, m, z, rfl, ls.se, by omega, fun e H' t2 bu se' ht2 => ?_, fun e H' t2 s12 ht2 => ?_⟩
      · rw [hL] at e
        rw [if_pos e] at ht
        obtain ⟨_, hn11, ha11, _⟩ := ls.se
        have ht' : H' t = some (.tup [.str "", .int 0]) := bu _ _ (ne_of ht hn11 (by intro z; cases z)) (ne_of ht ha11 (by intro z; cases z)) ht
        walk_at "rds"
        obtain ⟨sh, ev⟩ := dEq "" (by decide +kernel)
        refine ⟨_, _, dpT _ _ _ ht2, dpT _ _ _ ht', sh, sh, ?_⟩
        rw [ev]
        walk_at "rds"
        refine ⟨rfl, ?_⟩
        rw [if_pos e]
        exact ls.rem bu se' (okK_put ls.ok (by omega) hc7 hz1 hz2)
      · rw [hL] at e
        rw [if_neg (show ¬ la < m by omega)] at ht
        walk_at "rds"
        obtain ⟨sh, ev⟩ := dEq "number" (by decide +kernel)
        refine ⟨_, _, dpT _ _ _ ht2, dpT _ _ _ (s12 _ _ ht), sh, sh, ?_⟩
        rw [ev]
        walk_at "rds"
        refine ⟨rfl, ?_⟩
        rw [if_neg (show ¬ la < m by omega)]
        exact ls.on s12
    rintro σ' H12 ⟨rfl, ls⟩
    refine ⟨fun σ' H' => ∃ es', σ' = [some (.ref a), some (.ref p), some (.ref M), some (.ref p2), some (.ref Kd), some (.int i), some (.int r), some (.int c), some (.int la), some (.int m), some (.str z), some (.ref t)] ∧ LS C_Sessions H H' p n an M p2 n2 a2 Kd (ksOf es') es' es2 ∧ es'.length ≤ i + 1, ?_, ?_⟩
    · walk_at "rds"
      refine ite2 (fun e => ?_) (fun e => ?_)
      · have e : m > la := of_decide_eq_true e
        rw [if_pos e] at ls
        walk_at "rds"
        intro t3 ht3
        walk_at "rds"
        have ls := ls.on (same_upd (o := .tup [.int m, .str z]) ht3)
        have ht3' : upd H12 t3 (.tup [.int m, .str z]) t3 = some (.tup [.int m, .str z]) := upd_same
        generalize upd H12 t3 (.tup [.int m, .str z]) = H14 at ls ht3'
        refine ⟨M, _, rfl, DPut.k (k := Sum.inl c) ls.md.1 (by unfold mdD; rw [kvs_len]; exact sz1000' (by omega)), ?_⟩
        have ep : putK (mdD es) (Sum.inl c) (V.ref t3) = mdD (pA es c (t3, m, z)) := by unfold mdD; exact pA_kvs inlI _ es c (t3, m, z)
        refine ⟨pA es c (t3, m, z), rfl, ?_, by have := pA_len es c (t3, m, z); omega⟩
        rw [pA_ksOf]
        show LS _ _ (upd H14 M (.dK (putK (mdD es) (Sum.inl c) (V.ref t3)))) _ _ _ _ _ _ _ _ _ _ _
        rw [ep]
        refine ls.put fun k hk => ?_
        rcases pA_mem hk with rfl | ⟨hk, _⟩
        · exact ht3'
        · exact ls.md.2 k hk
      · have e : ¬ la < m := fun h => e (decide_eq_true h)
        rw [if_neg e] at ls
        exact ⟨es, rfl, ls, by omega⟩
    rintro σ' H13 ⟨es', rfl, ls, hel'⟩
    walk_at "rds"
    refine ⟨p, n, an, M, es', rfl, ls.se, ls.md, ls.ok, fun H14 s14 => ?_⟩
    have ls := ls.on s14
    walk_at "rds"
    refine ⟨p2, n2, a2, Kd, es2, rfl, ls.se2, ls.md2, ls.ok2, fun H15 s15 => ?_⟩
    have ls := ls.on s15
    walk_at "rds"
    refine ite2 (fun _ => ?_) (fun _ => ?_)
    · obtain ⟨⟨dx9, g9⟩, _⟩ := id ls.se
      walk_at "rds"
      refine ⟨p, dx9, _, rfl, g9, rfl, ?_⟩
      walk_at "rds"
      refine ⟨p, n, an, ksOf es', rfl, ls.se, fun H16 p3 n3 a3 s16 hp3 hn3 ha3 se3 => ?_⟩
      have lsA := ls.on s16
      walk_at "rds"
      refine ⟨M, _, rfl, .inl lsA.md.1, fun Kd3 hKd3 => ?_⟩
      have sK := same_upd (o := .dK (mdD es')) hKd3
      have lsB := lsA.on sK
      have e1 := ls.se.2.1
      have e2 := ls.se.2.2.1
      have e3 := ls.md.1
      refine ⟨p3, n3, a3, Kd3, es', es', _, _, _, _, _, _, _, rfl, { lsB with se2 := se3.on sK, md2 := ⟨upd_same, lsB.md.2⟩, ok2 := lsB.ok, d1 := ne_of_none e1 hn3, d2 := ne_of_none e1 ha3, d3 := ne_of_none e2 hn3, d4 := ne_of_none e2 ha3, d5 := ne_of_none lsA.se.2.1 hKd3, d6 := ne_of_none lsA.se.2.2.1 hKd3, d9 := ne_of_none e3 hn3, d10 := ne_of_none e3 ha3, d11 := ne_of_none lsA.md.1 hKd3 }, hel'⟩
    · exact ⟨p2, n2, a2, Kd, es', es2, _, _, _, _, _, _, _, rfl, ls, hel'⟩
  · obtain ⟨p2, n2, a2, Kd, es, es2, y5, y6, y7, y8, y9, y10, y11, rfl, ls, hel⟩ := hp'
    walk_at "rds"
    exact ⟨p, n, an, M, es, rfl, ls.se, ls.md, ls.ok, fun H' _ => q H'⟩
end

theorem fin {C_Sessions : Addr} {C_BadCommand : Addr} {P : Program} {w : World} {K : PySem.W.Frag} {mg : Str → Option Value} {fa : Addr} (hfa : mg "law" = some (.ref fa)) (T : Txt K mg C_Sessions C_BadCommand) :
    ∃ fd : FuncData, (∀ (s : Shared) (u : Value), BindsTo s fd ⟨[u], []⟩ [("script", u)]) ∧ ∀ base : Heap, K.In base → base.Ns mainGlobals mg → FnOk P w K mg base L2.CX0 6 fa fd ["script"] (spLaw K) := by
  obtain ⟨f, fd, F, hm, b⟩ := T.d_law.ex
  cases hfa.symm.trans hm
  refine ⟨fd, fun s u => ?_, fun base _ _ => ok_law F T⟩
  obtain ⟨oc, od, kV, doc, pm, an, cdv, ct, osl, rfl, l, _⟩ := F.ex
  exact .of_eq rfl

theorem all_mk {K : PySem.W.Frag} {h : Heap} {mg : Str → Option Value} (X : K.In h) (G : h.Ns mainGlobals mg)
    {f__law_rich : Addr} {od__law_rich an__law_rich : Option Addr} {sl__law_rich : Array (Option Value)} {oc__law_rich kV__law_rich dc__law_rich pm__law_rich cd__law_rich ct__law_rich : Value}
    {f__law_call : Addr} {od__law_call an__law_call : Option Addr} {sl__law_call : Array (Option Value)} {oc__law_call kV__law_call dc__law_call pm__law_call cd__law_call ct__law_call : Value}
    {f__law_same : Addr} {od__law_same an__law_same : Option Addr} {sl__law_same : Array (Option Value)} {oc__law_same kV__law_same dc__law_same pm__law_same cd__law_same ct__law_same : Value}
    {f_law : Addr} {od_law an_law : Option Addr} {sl_law : Array (Option Value)} {oc_law kV_law dc_law pm_law cd_law ct_law : Value}
    {C_Sessions : Addr}
    {f_Sessions____init__ : Addr} {od_Sessions____init__ an_Sessions____init__ : Option Addr} {sl_Sessions____init__ : Array (Option Value)} {oc_Sessions____init__ kV_Sessions____init__ dc_Sessions____init__ pm_Sessions____init__ cd_Sessions____init__ ct_Sessions____init__ : Value}
    {f_Sessions__last : Addr} {od_Sessions__last an_Sessions__last : Option Addr} {sl_Sessions__last : Array (Option Value)} {oc_Sessions__last kV_Sessions__last dc_Sessions__last pm_Sessions__last cd_Sessions__last ct_Sessions__last : Value}
    {f_Sessions__answer : Addr} {od_Sessions__answer an_Sessions__answer : Option Addr} {sl_Sessions__answer : Array (Option Value)} {oc_Sessions__answer kV_Sessions__answer dc_Sessions__answer pm_Sessions__answer cd_Sessions__answer ct_Sessions__answer : Value}
    {f_Sessions__remember : Addr} {od_Sessions__remember an_Sessions__remember : Option Addr} {sl_Sessions__remember : Array (Option Value)} {oc_Sessions__remember kV_Sessions__remember dc_Sessions__remember pm_Sessions__remember cd_Sessions__remember ct_Sessions__remember : Value}
    {f_Sessions__rows : Addr} {od_Sessions__rows an_Sessions__rows : Option Addr} {sl_Sessions__rows : Array (Option Value)} {oc_Sessions__rows kV_Sessions__rows dc_Sessions__rows pm_Sessions__rows cd_Sessions__rows ct_Sessions__rows : Value}
    {f_Sessions__numbers : Addr} {od_Sessions__numbers an_Sessions__numbers : Option Addr} {sl_Sessions__numbers : Array (Option Value)} {oc_Sessions__numbers kV_Sessions__numbers dc_Sessions__numbers pm_Sessions__numbers cd_Sessions__numbers ct_Sessions__numbers : Value}
    {f_Sessions__clone : Addr} {od_Sessions__clone an_Sessions__clone : Option Addr} {sl_Sessions__clone : Array (Option Value)} {oc_Sessions__clone kV_Sessions__clone dc_Sessions__clone pm_Sessions__clone cd_Sessions__clone ct_Sessions__clone : Value}
    {C_BadCommand : Addr} {nm_BadCommand qn_BadCommand : Str} {NN_BadCommand : Addr} {bs_BadCommand bm_BadCommand sub_BadCommand : List Value} {sn_BadCommand : List Str} {ab_BadCommand : Bool} {col_BadCommand : Option Bool} {dd_BadCommand : Option Addr} {m0_BadCommand m1_BadCommand m2_BadCommand m3_BadCommand m5_BadCommand : Option Value}
    {f_BadCommand____init__ : Addr} {od_BadCommand____init__ an_BadCommand____init__ : Option Addr} {sl_BadCommand____init__ : Array (Option Value)} {oc_BadCommand____init__ kV_BadCommand____init__ dc_BadCommand____init__ pm_BadCommand____init__ cd_BadCommand____init__ ct_BadCommand____init__ : Value}
    (a__law_rich : PySem.W.nsIn K mainGlobals "_law_rich" = some (some (.ref f__law_rich)))
    (l__law_rich : K.lookup f__law_rich = some ⟨oc__law_rich, od__law_rich, .func (PySem.W.fnOf "_law_rich" "_law_rich" (defArgs s__law_rich) (defBody s__law_rich) (defScope s__law_rich) .none kV__law_rich dc__law_rich pm__law_rich an__law_rich cd__law_rich ct__law_rich), sl__law_rich⟩)
    (e__law_rich : PySem.W.codeIn K cd__law_rich "_law_rich" = true)
    (k__law_rich : PySem.W.keepIn K (.ref f__law_rich) = true)
    (a__law_call : PySem.W.nsIn K mainGlobals "_law_call" = some (some (.ref f__law_call)))
    (l__law_call : K.lookup f__law_call = some ⟨oc__law_call, od__law_call, .func (PySem.W.fnOf "_law_call" "_law_call" (defArgs s__law_call) (defBody s__law_call) (defScope s__law_call) .none kV__law_call dc__law_call pm__law_call an__law_call cd__law_call ct__law_call), sl__law_call⟩)
    (e__law_call : PySem.W.codeIn K cd__law_call "_law_call" = true)
    (k__law_call : PySem.W.keepIn K (.ref f__law_call) = true)
    (a__law_same : PySem.W.nsIn K mainGlobals "_law_same" = some (some (.ref f__law_same)))
    (l__law_same : K.lookup f__law_same = some ⟨oc__law_same, od__law_same, .func (PySem.W.fnOf "_law_same" "_law_same" (defArgs s__law_same) (defBody s__law_same) (defScope s__law_same) .none kV__law_same dc__law_same pm__law_same an__law_same cd__law_same ct__law_same), sl__law_same⟩)
    (e__law_same : PySem.W.codeIn K cd__law_same "_law_same" = true)
    (k__law_same : PySem.W.keepIn K (.ref f__law_same) = true)
    (a_law : PySem.W.nsIn K mainGlobals "law" = some (some (.ref f_law)))
    (l_law : K.lookup f_law = some ⟨oc_law, od_law, .func (PySem.W.fnOf "law" "law" (defArgs s_law) (defBody s_law) (defScope s_law) .none kV_law dc_law pm_law an_law cd_law ct_law), sl_law⟩)
    (e_law : PySem.W.codeIn K cd_law "law" = true)
    (k_law : PySem.W.keepIn K (.ref f_law) = true)
    (ac_Sessions : PySem.W.nsIn K mainGlobals "Sessions" = some (some (.ref C_Sessions)))
    (pg_Sessions : PySem.W.plainGet K C_Sessions Str.empty = true)
    (hd_Sessions : PySem.W.hasDictIn K C_Sessions = true)
    (po_Sessions : PySem.W.plainOver K C_Sessions = true)
    (sa_Sessions : PySem.W.findIn K (.ref C_Sessions) "__setattr__" = some (some (.builtin "object.__setattr__")))
    (mk_Sessions : PySem.W.makesIn K C_Sessions = true)
    (kc_Sessions : PySem.W.keepIn K (.ref C_Sessions) = true)
    (na_Sessions__numbers : PySem.W.findIn K (.ref C_Sessions) "_numbers" = some none)
    (na_Sessions__answers : PySem.W.findIn K (.ref C_Sessions) "_answers" = some none)
    (a_Sessions____init__ : PySem.W.findIn K (.ref C_Sessions) "__init__" = some (some (.ref f_Sessions____init__)))
    (i_Sessions____init__ : PySem.W.isFn K (.ref f_Sessions____init__) = true)
    (l_Sessions____init__ : K.lookup f_Sessions____init__ = some ⟨oc_Sessions____init__, od_Sessions____init__, .func (PySem.W.fnOf "__init__" "Sessions.__init__" (defArgs s_Sessions____init__) (defBody s_Sessions____init__) (defScope s_Sessions____init__) .none kV_Sessions____init__ dc_Sessions____init__ pm_Sessions____init__ an_Sessions____init__ cd_Sessions____init__ ct_Sessions____init__), sl_Sessions____init__⟩)
    (e_Sessions____init__ : PySem.W.codeIn K cd_Sessions____init__ "Sessions.__init__" = true)
    (k_Sessions____init__ : PySem.W.keepIn K (.ref f_Sessions____init__) = true)
    (a_Sessions__last : PySem.W.findIn K (.ref C_Sessions) "last" = some (some (.ref f_Sessions__last)))
    (i_Sessions__last : PySem.W.isFn K (.ref f_Sessions__last) = true)
    (l_Sessions__last : K.lookup f_Sessions__last = some ⟨oc_Sessions__last, od_Sessions__last, .func (PySem.W.fnOf "last" "Sessions.last" (defArgs s_Sessions__last) (defBody s_Sessions__last) (defScope s_Sessions__last) .none kV_Sessions__last dc_Sessions__last pm_Sessions__last an_Sessions__last cd_Sessions__last ct_Sessions__last), sl_Sessions__last⟩)
    (e_Sessions__last : PySem.W.codeIn K cd_Sessions__last "Sessions.last" = true)
    (k_Sessions__last : PySem.W.keepIn K (.ref f_Sessions__last) = true)
    (a_Sessions__answer : PySem.W.findIn K (.ref C_Sessions) "answer" = some (some (.ref f_Sessions__answer)))
    (i_Sessions__answer : PySem.W.isFn K (.ref f_Sessions__answer) = true)
    (l_Sessions__answer : K.lookup f_Sessions__answer = some ⟨oc_Sessions__answer, od_Sessions__answer, .func (PySem.W.fnOf "answer" "Sessions.answer" (defArgs s_Sessions__answer) (defBody s_Sessions__answer) (defScope s_Sessions__answer) .none kV_Sessions__answer dc_Sessions__answer pm_Sessions__answer an_Sessions__answer cd_Sessions__answer ct_Sessions__answer), sl_Sessions__answer⟩)
    (e_Sessions__answer : PySem.W.codeIn K cd_Sessions__answer "Sessions.answer" = true)
    (k_Sessions__answer : PySem.W.keepIn K (.ref f_Sessions__answer) = true)
    (a_Sessions__remember : PySem.W.findIn K (.ref C_Sessions) "remember" = some (some (.ref f_Sessions__remember)))
    (i_Sessions__remember : PySem.W.isFn K (.ref f_Sessions__remember) = true)
    (l_Sessions__remember : K.lookup f_Sessions__remember = some ⟨oc_Sessions__remember, od_Sessions__remember, .func (PySem.W.fnOf "remember" "Sessions.remember" (defArgs s_Sessions__remember) (defBody s_Sessions__remember) (defScope s_Sessions__remember) .none kV_Sessions__remember dc_Sessions__remember pm_Sessions__remember an_Sessions__remember cd_Sessions__remember ct_Sessions__remember), sl_Sessions__remember⟩)
    (e_Sessions__remember : PySem.W.codeIn K cd_Sessions__remember "Sessions.remember" = true)
    (k_Sessions__remember : PySem.W.keepIn K (.ref f_Sessions__remember) = true)
    (a_Sessions__rows : PySem.W.findIn K (.ref C_Sessions) "rows" = some (some (.ref f_Sessions__rows)))
    (i_Sessions__rows : PySem.W.isFn K (.ref f_Sessions__rows) = true)
    (l_Sessions__rows : K.lookup f_Sessions__rows = some ⟨oc_Sessions__rows, od_Sessions__rows, .func (PySem.W.fnOf "rows" "Sessions.rows" (defArgs s_Sessions__rows) (defBody s_Sessions__rows) (defScope s_Sessions__rows) .none kV_Sessions__rows dc_Sessions__rows pm_Sessions__rows an_Sessions__rows cd_Sessions__rows ct_Sessions__rows), sl_Sessions__rows⟩)
    (e_Sessions__rows : PySem.W.codeIn K cd_Sessions__rows "Sessions.rows" = true)
    (k_Sessions__rows : PySem.W.keepIn K (.ref f_Sessions__rows) = true)
    (a_Sessions__numbers : PySem.W.findIn K (.ref C_Sessions) "numbers" = some (some (.ref f_Sessions__numbers)))
    (i_Sessions__numbers : PySem.W.isFn K (.ref f_Sessions__numbers) = true)
    (l_Sessions__numbers : K.lookup f_Sessions__numbers = some ⟨oc_Sessions__numbers, od_Sessions__numbers, .func (PySem.W.fnOf "numbers" "Sessions.numbers" (defArgs s_Sessions__numbers) (defBody s_Sessions__numbers) (defScope s_Sessions__numbers) .none kV_Sessions__numbers dc_Sessions__numbers pm_Sessions__numbers an_Sessions__numbers cd_Sessions__numbers ct_Sessions__numbers), sl_Sessions__numbers⟩)
    (e_Sessions__numbers : PySem.W.codeIn K cd_Sessions__numbers "Sessions.numbers" = true)
    (k_Sessions__numbers : PySem.W.keepIn K (.ref f_Sessions__numbers) = true)
    (a_Sessions__clone : PySem.W.findIn K (.ref C_Sessions) "clone" = some (some (.ref f_Sessions__clone)))
    (i_Sessions__clone : PySem.W.isFn K (.ref f_Sessions__clone) = true)
    (l_Sessions__clone : K.lookup f_Sessions__clone = some ⟨oc_Sessions__clone, od_Sessions__clone, .func (PySem.W.fnOf "clone" "Sessions.clone" (defArgs s_Sessions__clone) (defBody s_Sessions__clone) (defScope s_Sessions__clone) .none kV_Sessions__clone dc_Sessions__clone pm_Sessions__clone an_Sessions__clone cd_Sessions__clone ct_Sessions__clone), sl_Sessions__clone⟩)
    (e_Sessions__clone : PySem.W.codeIn K cd_Sessions__clone "Sessions.clone" = true)
    (k_Sessions__clone : PySem.W.keepIn K (.ref f_Sessions__clone) = true)
    (xa_BadCommand : PySem.W.nsIn K mainGlobals "BadCommand" = some (some (.ref C_BadCommand)))
    (xl_BadCommand : K.lookup C_BadCommand = some (excClassObj nm_BadCommand qn_BadCommand C_BadCommand NN_BadCommand bs_BadCommand bm_BadCommand true sn_BadCommand sub_BadCommand ab_BadCommand col_BadCommand dd_BadCommand m0_BadCommand m1_BadCommand m2_BadCommand m3_BadCommand m5_BadCommand "ValueError.__new__"))
    (xr_BadCommand : PySem.HandSPX.refsVE bm_BadCommand = true)
    (xs_BadCommand : PySem.W.findIn K (.ref C_BadCommand) "__setattr__" = some (some (.builtin "object.__setattr__")))
    (xk_BadCommand : PySem.W.keepIn K (.ref C_BadCommand) = true)
    (xb_BadCommand : PySem.W.subIn K (.ref C_BadCommand) (.type "BaseException") = some true)
    (xt_BadCommand : PySem.W.typeIn K (.ref C_BadCommand) = some (.type "type"))
    (xh_BadCommand : PySem.W.hasDictIn K C_BadCommand = true)
    (xg_BadCommand : PySem.W.findIn K (.ref C_BadCommand) "__getattribute__" = some (some (.builtin "BaseException.__getattribute__")))
    (xq_BadCommand : PySem.W.findIn K (.ref C_BadCommand) "__getattr__" = some none)
    (xn_BadCommand_reason : PySem.W.findIn K (.ref C_BadCommand) "reason" = some none)
    (xn_BadCommand_statement : PySem.W.findIn K (.ref C_BadCommand) "statement" = some none)
    (a_BadCommand____init__ : PySem.W.findIn K (.ref C_BadCommand) "__init__" = some (some (.ref f_BadCommand____init__)))
    (ty_BadCommand____init__ : PySem.W.typeIn K (.ref f_BadCommand____init__) = some (.type "function"))
    (l_BadCommand____init__ : K.lookup f_BadCommand____init__ = some ⟨oc_BadCommand____init__, od_BadCommand____init__, .func (PySem.W.fnOf "__init__" "BadCommand.__init__" (defArgs s_BadCommand____init__) (defBody s_BadCommand____init__) (defScope s_BadCommand____init__) .none kV_BadCommand____init__ dc_BadCommand____init__ pm_BadCommand____init__ an_BadCommand____init__ cd_BadCommand____init__ ct_BadCommand____init__), sl_BadCommand____init__⟩)
    (e_BadCommand____init__ : PySem.W.codeIn K cd_BadCommand____init__ "BadCommand.__init__" = true)
    (k_BadCommand____init__ : PySem.W.keepIn K (.ref f_BadCommand____init__) = true)
    (u_BadCommand_BadCommand : PySem.W.subIn K (.ref C_BadCommand) (.ref C_BadCommand) = some true)
    (z_dict : PySem.W.nsIn K mainGlobals "dict" = some none)
    (z_int : PySem.W.nsIn K mainGlobals "int" = some none)
    (z_isinstance : PySem.W.nsIn K mainGlobals "isinstance" = some none)
    (z_len : PySem.W.nsIn K mainGlobals "len" = some none)
    (z_max : PySem.W.nsIn K mainGlobals "max" = some none)
    (z_min : PySem.W.nsIn K mainGlobals "min" = some none)
    (z_range : PySem.W.nsIn K mainGlobals "range" = some none)
    (z_sorted : PySem.W.nsIn K mainGlobals "sorted" = some none) : Txt K mg C_Sessions C_BadCommand :=
  { d__law_rich := ⟨_, _, (fun_mk l__law_rich e__law_rich k__law_rich), PySem.W.mg_of X G a__law_rich, ((fun_mk (st := s__law_rich) l__law_rich e__law_rich k__law_rich).binds (ps := ["cell", "k"]) fun _ _ _ _ _ _ us hl => match us, hl with | [_, _], _ => rfl)⟩,
    d__law_call := ⟨_, _, (fun_mk l__law_call e__law_call k__law_call), PySem.W.mg_of X G a__law_call, ((fun_mk (st := s__law_call) l__law_call e__law_call k__law_call).binds (ps := ["sessions", "client", "number", "answer"]) fun _ _ _ _ _ _ us hl => match us, hl with | [_, _, _, _], _ => rfl)⟩,
    d__law_same := ⟨_, _, (fun_mk l__law_same e__law_same k__law_same), PySem.W.mg_of X G a__law_same, ((fun_mk (st := s__law_same) l__law_same e__law_same k__law_same).binds (ps := ["sessions", "model"]) fun _ _ _ _ _ _ us hl => match us, hl with | [_, _], _ => rfl)⟩,
    d_law := ⟨_, _, (fun_mk l_law e_law k_law), PySem.W.mg_of X G a_law, ((fun_mk (st := s_law) l_law e_law k_law).binds (ps := ["script"]) fun _ _ _ _ _ _ us hl => match us, hl with | [_], _ => rfl)⟩,
    cl_Sessions := ⟨pg_Sessions, hd_Sessions, po_Sessions, sa_Sessions⟩,
    g_Sessions := PySem.W.mg_of X G ac_Sessions,
    na_Sessions__numbers := na_Sessions__numbers,
    na_Sessions__answers := na_Sessions__answers,
    mk_Sessions := ⟨_, _, ⟨mk_Sessions, a_Sessions____init__, i_Sessions____init__, kc_Sessions⟩, (fun_mk l_Sessions____init__ e_Sessions____init__ k_Sessions____init__), ((fun_mk (st := s_Sessions____init__) l_Sessions____init__ e_Sessions____init__ k_Sessions____init__).binds (ps := ["self"]) fun _ _ _ _ _ _ us hl => match us, hl with | [_], _ => rfl)⟩,
    me_Sessions__last := ⟨_, _, ⟨a_Sessions__last, i_Sessions__last, k_Sessions__last⟩, (fun_mk l_Sessions__last e_Sessions__last k_Sessions__last), ((fun_mk (st := s_Sessions__last) l_Sessions__last e_Sessions__last k_Sessions__last).binds (ps := ["self", "client"]) fun _ _ _ _ _ _ us hl => match us, hl with | [_, _], _ => rfl)⟩,
    me_Sessions__answer := ⟨_, _, ⟨a_Sessions__answer, i_Sessions__answer, k_Sessions__answer⟩, (fun_mk l_Sessions__answer e_Sessions__answer k_Sessions__answer), ((fun_mk (st := s_Sessions__answer) l_Sessions__answer e_Sessions__answer k_Sessions__answer).binds (ps := ["self", "client"]) fun _ _ _ _ _ _ us hl => match us, hl with | [_, _], _ => rfl)⟩,
    me_Sessions__remember := ⟨_, _, ⟨a_Sessions__remember, i_Sessions__remember, k_Sessions__remember⟩, (fun_mk l_Sessions__remember e_Sessions__remember k_Sessions__remember), ((fun_mk (st := s_Sessions__remember) l_Sessions__remember e_Sessions__remember k_Sessions__remember).binds (ps := ["self", "client", "number", "answer"]) fun _ _ _ _ _ _ us hl => match us, hl with | [_, _, _, _], _ => rfl)⟩,
    me_Sessions__rows := ⟨_, _, ⟨a_Sessions__rows, i_Sessions__rows, k_Sessions__rows⟩, (fun_mk l_Sessions__rows e_Sessions__rows k_Sessions__rows), ((fun_mk (st := s_Sessions__rows) l_Sessions__rows e_Sessions__rows k_Sessions__rows).binds (ps := ["self"]) fun _ _ _ _ _ _ us hl => match us, hl with | [_], _ => rfl)⟩,
    me_Sessions__numbers := ⟨_, _, ⟨a_Sessions__numbers, i_Sessions__numbers, k_Sessions__numbers⟩, (fun_mk l_Sessions__numbers e_Sessions__numbers k_Sessions__numbers), ((fun_mk (st := s_Sessions__numbers) l_Sessions__numbers e_Sessions__numbers k_Sessions__numbers).binds (ps := ["self"]) fun _ _ _ _ _ _ us hl => match us, hl with | [_], _ => rfl)⟩,
    me_Sessions__clone := ⟨_, _, ⟨a_Sessions__clone, i_Sessions__clone, k_Sessions__clone⟩, (fun_mk l_Sessions__clone e_Sessions__clone k_Sessions__clone), ((fun_mk (st := s_Sessions__clone) l_Sessions__clone e_Sessions__clone k_Sessions__clone).binds (ps := ["self"]) fun _ _ _ _ _ _ us hl => match us, hl with | [_], _ => rfl)⟩,
    x_BadCommand := ⟨PySem.W.mg_of X G xa_BadCommand, ⟨⟨_, _, _, _, _, _, _, _, _, _, _, _, _, _, _, xl_BadCommand, xr_BadCommand⟩, xs_BadCommand, xb_BadCommand, xt_BadCommand, xk_BadCommand⟩, ⟨xg_BadCommand, xq_BadCommand, xb_BadCommand, xh_BadCommand⟩⟩,
    xn_BadCommand_reason := xn_BadCommand_reason,
    xn_BadCommand_statement := xn_BadCommand_statement,
    ei_BadCommand := ⟨_, _, a_BadCommand____init__, ty_BadCommand____init__, (fun_mk l_BadCommand____init__ e_BadCommand____init__ k_BadCommand____init__), ((fun_mk (st := s_BadCommand____init__) l_BadCommand____init__ e_BadCommand____init__ k_BadCommand____init__).binds (ps := ["self", "reason", "statement"]) fun _ _ _ _ _ _ us hl => match us, hl with | [_, _, _], _ => rfl)⟩,
    u_BadCommand_BadCommand := u_BadCommand_BadCommand,
    z_dict := PySem.W.mg_none_of X G z_dict,
    z_int := PySem.W.mg_none_of X G z_int,
    z_isinstance := PySem.W.mg_none_of X G z_isinstance,
    z_len := PySem.W.mg_none_of X G z_len,
    z_max := PySem.W.mg_none_of X G z_max,
    z_min := PySem.W.mg_none_of X G z_min,
    z_range := PySem.W.mg_none_of X G z_range,
    z_sorted := PySem.W.mg_none_of X G z_sorted }
end Law
open PySem PySem.W PyProof.Rows
set_option maxRecDepth 100000 in
set_option maxHeartbeats 0 in
theorem PySem.Challenge.cw_oathledger_k48_sessions_holds : PySem.Challenge.rw_oathledger_k48_sessions.Holds := by
  w_on; o_law; k_head; (case hw => w_witness2)
  k_fill
  refine L2.walk_of (l := PySem.Challenge.rw_oathledger_k48_sessions) (n := 63) (k := 6) (x := "script") (CX := fun _ => L2.CX0) (sp := fun w => Law.spLaw _) rfl (by decide) rfl ⟨rfl, by decide, by decide⟩ (fun w h Y => PySem.W.kIn_of Y) ?F (fun _ _ a ns hl _ hS => ⟨a, ns, rfl, hS, hl, fun _ => rfl⟩) (fun _ _ _ _ _ h => h)
  case F =>
    intro w mg fa h KX G hmg
    refine' Law.fin hmg (Law.all_mk KX G ?a__law_rich ?l__law_rich ?e__law_rich ?k__law_rich ?a__law_call ?l__law_call ?e__law_call ?k__law_call ?a__law_same ?l__law_same ?e__law_same ?k__law_same ?a_law ?l_law ?e_law ?k_law ?ac_Sessions ?pg_Sessions ?hd_Sessions ?po_Sessions ?sa_Sessions ?mk_Sessions ?kc_Sessions ?na_Sessions__numbers ?na_Sessions__answers ?a_Sessions____init__ ?i_Sessions____init__ ?l_Sessions____init__ ?e_Sessions____init__ ?k_Sessions____init__ ?a_Sessions__last ?i_Sessions__last ?l_Sessions__last ?e_Sessions__last ?k_Sessions__last ?a_Sessions__answer ?i_Sessions__answer ?l_Sessions__answer ?e_Sessions__answer ?k_Sessions__answer ?a_Sessions__remember ?i_Sessions__remember ?l_Sessions__remember ?e_Sessions__remember ?k_Sessions__remember ?a_Sessions__rows ?i_Sessions__rows ?l_Sessions__rows ?e_Sessions__rows ?k_Sessions__rows ?a_Sessions__numbers ?i_Sessions__numbers ?l_Sessions__numbers ?e_Sessions__numbers ?k_Sessions__numbers ?a_Sessions__clone ?i_Sessions__clone ?l_Sessions__clone ?e_Sessions__clone ?k_Sessions__clone ?xa_BadCommand ?xl_BadCommand ?xr_BadCommand ?xs_BadCommand ?xk_BadCommand ?xb_BadCommand ?xt_BadCommand ?xh_BadCommand ?xg_BadCommand ?xq_BadCommand ?xn_BadCommand_reason ?xn_BadCommand_statement ?a_BadCommand____init__ ?ty_BadCommand____init__ ?l_BadCommand____init__ ?e_BadCommand____init__ ?k_BadCommand____init__ ?u_BadCommand_BadCommand ?z_dict ?z_int ?z_isinstance ?z_len ?z_max ?z_min ?z_range ?z_sorted)
    (case a__law_rich => k_is)
    (case l__law_rich => k_is)
    (case e__law_rich => k_is)
    (case k__law_rich => k_is)
    (case a__law_call => k_is)
    (case l__law_call => k_is)
    (case e__law_call => k_is)
    (case k__law_call => k_is)
    (case a__law_same => k_is)
    (case l__law_same => k_is)
    (case e__law_same => k_is)
    (case k__law_same => k_is)
    (case a_law => k_is)
    (case l_law => k_is)
    (case e_law => k_is)
    (case k_law => k_is)
    (case ac_Sessions => k_is)
    (case pg_Sessions => k_is)
    (case hd_Sessions => k_is)
    (case po_Sessions => k_is)
    (case sa_Sessions => k_is)
    (case mk_Sessions => k_is)
    (case kc_Sessions => k_is)
    (case na_Sessions__numbers => k_is)
    (case na_Sessions__answers => k_is)
    (case a_Sessions____init__ => k_is)
    (case i_Sessions____init__ => k_is)
    (case l_Sessions____init__ => k_is)
    (case e_Sessions____init__ => k_is)
    (case k_Sessions____init__ => k_is)
    (case a_Sessions__last => k_is)
    (case i_Sessions__last => k_is)
    (case l_Sessions__last => k_is)
    (case e_Sessions__last => k_is)
    (case k_Sessions__last => k_is)
    (case a_Sessions__answer => k_is)
    (case i_Sessions__answer => k_is)
    (case l_Sessions__answer => k_is)
    (case e_Sessions__answer => k_is)
    (case k_Sessions__answer => k_is)
    (case a_Sessions__remember => k_is)
    (case i_Sessions__remember => k_is)
    (case l_Sessions__remember => k_is)
    (case e_Sessions__remember => k_is)
    (case k_Sessions__remember => k_is)
    (case a_Sessions__rows => k_is)
    (case i_Sessions__rows => k_is)
    (case l_Sessions__rows => k_is)
    (case e_Sessions__rows => k_is)
    (case k_Sessions__rows => k_is)
    (case a_Sessions__numbers => k_is)
    (case i_Sessions__numbers => k_is)
    (case l_Sessions__numbers => k_is)
    (case e_Sessions__numbers => k_is)
    (case k_Sessions__numbers => k_is)
    (case a_Sessions__clone => k_is)
    (case i_Sessions__clone => k_is)
    (case l_Sessions__clone => k_is)
    (case e_Sessions__clone => k_is)
    (case k_Sessions__clone => k_is)
    (case xa_BadCommand => k_is)
    (case xl_BadCommand => k_is)
    (case xr_BadCommand => decide +kernel)
    (case xs_BadCommand => k_is)
    (case xk_BadCommand => k_is)
    (case xb_BadCommand => k_is)
    (case xt_BadCommand => k_is)
    (case xh_BadCommand => k_is)
    (case xg_BadCommand => k_is)
    (case xq_BadCommand => k_is)
    (case xn_BadCommand_reason => k_is)
    (case xn_BadCommand_statement => k_is)
    (case a_BadCommand____init__ => k_is)
    (case ty_BadCommand____init__ => k_is)
    (case l_BadCommand____init__ => k_is)
    (case e_BadCommand____init__ => k_is)
    (case k_BadCommand____init__ => k_is)
    (case u_BadCommand_BadCommand => k_is)
    (case z_dict => k_is)
    (case z_int => k_is)
    (case z_isinstance => k_is)
    (case z_len => k_is)
    (case z_max => k_is)
    (case z_min => k_is)
    (case z_range => k_is)
    (case z_sorted => k_is)

