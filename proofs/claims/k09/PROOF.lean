import PyProof.Rows.All
import Wide.All
import OpenK.AllK
import Wide.FinOn
import HandS.ForMost
import HandS.Walk
import HandS.Flow
import HandS.Codes
import HandS.IsInst
import HandS.Conv
import HandS.StrMore
import PyProof.MeetsSeq2
import PyProof.DictTable
import HandS.Wide
import HandS.TupAny
import HandS.More
import HandS.Dict
import HandS.ForExc
import HandS.ExcIs
import HandS.ExcField
import HandS.DeepEq
import HandS.TupLe
import HandS.Steps
import HandS.ExcInit
import HandS.SortRule
import HandS.RaiseMore
import HandS.Zip
import PySem.Challenge.RW_oathledger_k09_blocks
set_option Elab.async false
set_option linter.all false
set_option maxRecDepth 100000
set_option maxHeartbeats 4000000
namespace Law
open PySem PySem.Spec PyProof.Rows L2
open C8 (Cal Met Mak pe_c pe_mk pe_mt pe_mt0 pe_gc pss_cut tCut)
/-! ### a def of the top, by its name -/
structure DefOk (K : PySem.W.Frag) (mg : Str → Option Value) (x : Str) (st : Stmt) (ps : List Str) : Prop where
  ex : ∃ (f : Addr) (fd : FuncData), L2.Fun K x x st f fd ∧ mg x = some (.ref f) ∧ Binds K fd ps []
section
variable {P : Program} {w : World} {K : PySem.W.Frag} {mg : Str → Option Value} {base : Heap}
/-- a def's promise, by its body -/
theorem cal {x : Str} {st : Stmt} {N ps : List Str} {k : Nat} {sp : Sp} (D : DefOk K mg x st ps) (S : FnScope N ps (defScope st)) (len : ∀ vs H Q E, sp vs H Q E → vs.length = ps.length)
    (hbody : ∀ (f : Addr) (cdv : Value) (A : Around) (outer : List Env) (s : Shared) (H : Hp) (vs : List V) (Q : VK) (E : XK), Room k (A.deeper (envOfC x (defScope st) s.heap.objs.size f cdv)) → sp vs H Q E →
      ∃ t, PSs (cxOf L2.CX0 P w K mg base N x (defScope st) f cdv A outer s H E).nox (defBody st) t ∧ t { nx := fun _ H' => Q .non H', rt := Q } (start N vs) H) : Cal P w K mg base (k + 1) x sp [] := by
  obtain ⟨f, fd, F, hm, b⟩ := D.ex
  exact ⟨f, fd, ps, [], F.ok S len (fun cdv A outer s H vs Q E hr h => hbody f cdv A outer s H vs Q E hr h), hm, F.kp, b, .nil⟩
/-- a call without arguments -/
theorem pe_c0 {X : Cx} {k j : Nat} {x : Str} {sp : Sp} {dvs : List V} {p pos : Pos} (c : Cal X.prog X.w X.K X.mg X.base k x sp dvs) (hr : Room j X.A) (hk : k ≤ j) (hg : Gl X x)
    (hdb : (x == ("__debug__" : Str)) = false := by decide) : PE X (.Call (.Name x p) [] [] pos) (tCall sp dvs L2.E0 tNil) := by
  obtain ⟨f, fd, ps, ds, F, hm, kp, b, d⟩ := c.ex
  exact pe_call0 F (hr.mono hk) hg hm kp b d pass0 hdb
end
/-! ### small things -/
theorem same_upd {H : Hp} {p : Addr} {o : HO} (h : H p = none) : Same H (upd H p o) := fun b x e => by
  rw [upd_ne (ne_of_none e h)]
  exact e
theorem same_mut {H H' : Hp} {p : Addr} {o : HO} (s : Same H H') (h : H p = none) : Same H (upd H' p o) := fun b x e => by
  rw [upd_ne (ne_of_none e h)]
  exact s b x e
theorem sz1000 {n : Nat} (h : n ≤ 100000) : n ≤ sizeLine := Nat.le_trans h (by decide)
theorem sz1000' {n : Nat} (h : n < 100000) : n < sizeLine := Nat.lt_of_lt_of_le h (by decide)
theorem sz1000'' {n : Nat} (h : n ≤ 16777216) : n ≤ sizeLine := by rw [sizeLine_eq]; exact h
theorem sq {K : PySem.W.Frag} {H : Hp} {a : Addr} {xs : List V} (h : H a = some (.lst xs)) : SqL K H a xs := .inl (.inl h)
def spLaw (K : PySem.W.Frag) : Sp := fun vs H Q _ => ∃ (a : Addr) (ns : List Int), vs = [.ref a] ∧ SqL K H a (ns.map V.int) ∧ ns.length ≤ 63 ∧ ∀ H', Q (.bl true) H'
/-! ### the reading, step by step -/
local macro_rules | `(tactic| walk_at "sd") => `(tactic| first
  | omega
  | decide
  | assumption
  | (show _ ∨ _; exact Or.inl ⟨by omega, by omega⟩)
  | (show _ ∨ _; exact Or.inr ⟨by omega, by omega⟩)
  | (show _ ∧ _; exact ⟨by omega, by omega⟩)
  | (show _ ∧ _; exact ⟨by decide, by decide⟩)
  | exact sz1000 (by omega)
  | exact sz1000' (by omega))
local macro_rules | `(tactic| walk_at "sz") => `(tactic| first
  | exact sz1000 (Nat.le_of_ble_eq_true rfl)
  | exact sz1000 (by omega)
  | exact sz1000'' (by omega)
  | assumption)
/-- one step of a reading: a slot, an operator upon numbers, a call upon values -/
local macro_rules | `(tactic| walk_at "rd") => `(tactic| first
  | refine ⟨_, (rfl : (_ : List (Option V))[_]? = some (some _)), ?_⟩
  | refine ⟨_, _, (rfl : (_ : V) = _), (rfl : (_ : V) = _), (by walk_at "sd" : (_ : Prop)), ?_⟩
  | refine ⟨_, _, (rfl : (_ : V) = _), (rfl : (_ : V) = _), ?_⟩
  | refine ⟨_, (rfl : (_ : List V) = _), (by walk_at "sd" : (_ : Prop)), (by walk_at "sd" : (_ : Prop)), ?_⟩
  | refine ⟨_, (rfl : (_ : List V) = _), ?_⟩
  | refine ⟨_, (rfl : (_ : V) = _), ?_⟩
  | refine .inl ⟨_, (rfl : (_ : List V) = _), ?_⟩
  | refine ⟨⟨_, (rfl : (_ : V) = _)⟩, ?_⟩
  | refine ⟨(rfl : scal _ _ = true), ?_⟩
  | refine ⟨(rfl : V.non = V.non), ?_⟩
  | refine ⟨(by walk_at "sz" : (_ ≤ sizeLine)), ?_⟩)
local macro_rules | `(tactic| walk_at "rds") => `(tactic| repeat walk_at "rd")
theorem tyes {σ : L2.St} {H : Hp} {A B : Hp → Prop} (h : A H) : tYes σ H (fun b H3 => if b = true then A H3 else B H3) := by
  show (if true = true then A H else B H)
  rw [if_pos rfl]
  exact h
theorem sum_ones {ys : List Str} (h : ∀ y ∈ ys, y.length = 1) : (ys.map (fun x => x.length)).sum = ys.length := by
  induction ys with
  | nil => rfl
  | cons y r ih =>
    rw [List.map_cons, List.sum_cons, ih (fun z hz => h z (List.mem_cons_of_mem _ hz)), h y List.mem_cons_self, List.length_cons]
    omega
theorem chr_at {z : Str} {i : Int} (h0 : 0 ≤ i) (h1 : i < z.length) : ∃ c, atI z.cps.toList i = some c := by
  obtain ⟨j, rfl⟩ := Int.eq_ofNat_of_zero_le h0
  have hj : j < z.cps.toList.length := by
    rw [Array.length_toList]
    exact Int.ofNat_lt.mp h1
  exact ⟨z.cps.toList[j], atI_nat (List.getElem?_eq_getElem hj)⟩
/-- what an append to a tracked new list leaves -/
theorem lst_app {α : Type} {H : Hp} {D : Addr} {f : α → V} {ys : List α} {y : α} : upd H D (.lst (ys.map f ++ [f y])) D = some (.lst ((ys ++ [y]).map f)) := by
  rw [upd_same, List.map_append]
  rfl
theorem rg40 {n : Nat} (h : n ≤ 100000) : RgC 0 n 40 ((n + 39) / 40) := by
  have e : Builtin.Range.rangeSize 0 (n : Int) 40 = (((n + 39) / 40 : Nat) : Int) := by
    rw [rangeSize_pos (by decide) (by omega)]
    omega
  refine ⟨by decide, by decide, ?_, e⟩
  unfold Builtin.Range.small
  rw [e]
  unfold Builtin.Range.rangeFitsLong
  simp
  omega
theorem isi {K : PySem.W.Frag} {H : Hp} {x : V} {T1 T2 : String} {b : Bool} {Q : VK} (ty : TyX K H x (.type T1)) (e : kitB T1 T2 = some b) (q : Q (.bl b) H) : rIsi K [x, .ty T2] H Q :=
  ⟨x, .ty T2, _, _, b, rfl, .ty _, ty, kit_ty e, q⟩
theorem ifT {c : Bool} {A B : Prop} (hc : c = true) (h : A) : if c = true then A else B := by
  rw [if_pos hc]
  exact h
theorem ifF {c : Bool} {A B : Prop} (hc : c = false) (h : B) : if c = true then A else B := by
  rw [if_neg (by rw [hc]; decide)]
  exact h
local macro_rules | `(tactic| walk_at "isk") => `(tactic| first
  | exact .base (.int _) | exact .base (.str _) | exact .base (.bl _) | exact .base .non
  | exact .base (.lst (by assumption)) | exact .base (.tup (by assumption)) | exact .base (.dK (by assumption)))
/-- isinstance(x, T) with a built-in T; the object's fact stands in the context -/
local macro_rules | `(tactic| walk_at "isi") => `(tactic| first
  | refine ⟨_, .ty _, _, _, true, (rfl : (_ : List V) = _), .ty _, (by walk_at "isk"), kit_ty (by decide +kernel), ?_⟩
  | refine ⟨_, .ty _, _, _, false, (rfl : (_ : List V) = _), .ty _, (by walk_at "isk"), kit_ty (by decide +kernel), ?_⟩)
/-! ### classes of the top -/
structure MethOk (K : PySem.W.Frag) (C : Addr) (m qual : Str) (st : Stmt) (ps : List Str) : Prop where
  ex : ∃ (f : Addr) (fd : FuncData), Meth K C m f ∧ L2.Fun K m qual st f fd ∧ Binds K fd ps []
structure MakOk (K : PySem.W.Frag) (C : Addr) (qual : Str) (st : Stmt) (ps : List Str) : Prop where
  ex : ∃ (f : Addr) (fd : FuncData), Mk K C f ∧ L2.Fun K "__init__" qual st f fd ∧ Binds K fd ps []
section
variable {P : Program} {w : World} {K : PySem.W.Frag} {mg : Str → Option Value} {base : Heap}
theorem met {C : Addr} {m qual : Str} {st : Stmt} {N ps : List Str} {k : Nat} {sp : Sp} (c : Cls K C) (D : MethOk K C m qual st ps) (S : FnScope N ps (defScope st)) (len : ∀ vs H Q E, sp vs H Q E → vs.length = ps.length)
    (hbody : ∀ (f : Addr) (cdv : Value) (A : Around) (outer : List Env) (s : Shared) (H : Hp) (vs : List V) (Q : VK) (E : XK), Room k (A.deeper (envOfC qual (defScope st) s.heap.objs.size f cdv)) → sp vs H Q E →
      ∃ t, PSs (cxOf L2.CX0 P w K mg base N qual (defScope st) f cdv A outer s H E).nox (defBody st) t ∧ t { nx := fun _ H' => Q .non H', rt := Q } (start N vs) H) : Met P w K mg base (k + 1) C m sp [] := by
  obtain ⟨f, fd, M, F, b⟩ := D.ex
  exact ⟨f, fd, ps, [], c, M, F.ok S len (fun cdv A outer s H vs Q E hr h => hbody f cdv A outer s H vs Q E hr h), b, .nil⟩
theorem mak {C : Addr} {x qual : Str} {st : Stmt} {N ps : List Str} {k : Nat} {sp : Sp} (hm : mg x = some (.ref C)) (D : MakOk K C qual st ps) (S : FnScope N ps (defScope st)) (len : ∀ vs H Q E, sp vs H Q E → vs.length = ps.length)
    (hbody : ∀ (f : Addr) (cdv : Value) (A : Around) (outer : List Env) (s : Shared) (H : Hp) (vs : List V) (Q : VK) (E : XK), Room k (A.deeper (envOfC qual (defScope st) s.heap.objs.size f cdv)) → sp vs H Q E →
      ∃ t, PSs (cxOf L2.CX0 P w K mg base N qual (defScope st) f cdv A outer s H E).nox (defBody st) t ∧ t { nx := fun _ H' => Q .non H', rt := Q } (start N vs) H) : Mak P w K mg base (k + 1) x C sp [] := by
  obtain ⟨f, fd, M, F, b⟩ := D.ex
  exact ⟨f, fd, ps, [], M, F.ok S len (fun cdv A outer s H vs Q E hr h => hbody f cdv A outer s H vs Q E hr h), hm, b, .nil⟩
end
/-- a tuple of the top, in the written part -/
def KTup (K : PySem.W.Frag) (a : Addr) (xs : List V) : Prop := ∃ o its n, K.lookup a = some o ∧ o.cls = Value.type "tuple" ∧ o.data = Data.seq its n ∧ its.size ≤ sizeLine ∧ Vals xs its.toList
theorem pe_mk0 {X : Cx} {k j : Nat} {x : Str} {C : Addr} {sp : Sp} {dvs : List V} {p pos : Pos} (c : Mak X.prog X.w X.K X.mg X.base k x C sp dvs) (hr : Room j X.A) (hk : k + 1 ≤ j) (hg : Gl X x)
    (hdb : (x == ("__debug__" : Str)) = false := by decide) : PE X (.Call (.Name x p) [] [] pos) (tMake C sp dvs L2.E0 tNil) := by
  obtain ⟨f, fd, ps, ds, M, F, hm, b, d⟩ := c.ex
  exact pe_make0 M F (hr.mono hk) hg hm b d pass0 hdb
/-! ### rules whose written part is named K (a comprehension's context is another one) -/
section
variable {X : Cx} {K : PySem.W.Frag}
theorem kin (h : X.K = K := by rfl) : OpR X (compareOp .In) (rIn K false) := by subst h; exact op_in_seq
theorem knin (h : X.K = K := by rfl) : OpR X (compareOp .NotIn) (rIn K true) := by subst h; exact op_notIn_seq
theorem kixl (h : X.K = K := by rfl) : IxR X (rIxL K) := by subst h; exact ix_list
theorem kixt (h : X.K = K := by rfl) : IxR X (rIxT K) := by subst h; exact ix_tup
theorem ksll (h : X.K = K := by rfl) : SlR X (rSlL K) := by subst h; exact sl_list
theorem kisi (h : X.K = K := by rfl) : CallR X (.builtin "isinstance") (rIsi K) := by subst h; exact call_isi
theorem kfld {o : Expr} {f : Str} {pos : Pos} {ta : TE} (he : PE X o ta) (hb : attributeBase o f X.env (eval o X.env) = eval o X.env := by rfl) (h : X.K = K := by rfl) : PE X (.Attribute o f pos) (tFld K ta f) := by subst h; exact pe_fld he hb
def rLenK (K : PySem.W.Frag) : List V → Hp → VK → Prop := fun xs H Q => ∃ p ys, xs = [.ref p] ∧ (SqL K H p ys ∨ SqT K H p ys) ∧ Q (.int ys.length) H
theorem klen (h : X.K = K := by rfl) : CallR X (.builtin "len") (rLenK K) := by subst h; exact call_len_seq
end
theorem hu1 {k : Nat} {A : Around} (hr : Room k A) : A.units + 1 < cLine := by have := hr.units; omega
section
variable {X : Cx}
theorem kdin {d : Addr} (h : ∃ es n, KDict X.K X.w d es n) : OpR X (compareOp .In) (fun x y H Q => ∃ (z : Str) (r : Option Value), x = .str z ∧ y = .ref d ∧ PySem.W.nsIn X.K d z = some r ∧ Q (.bl r.isSome) H) := by
  obtain ⟨es, n, D⟩ := h
  exact op_in_kd D
theorem kdnin {d : Addr} (h : ∃ es n, KDict X.K X.w d es n) : OpR X (compareOp .NotIn) (fun x y H Q => ∃ (z : Str) (r : Option Value), x = .str z ∧ y = .ref d ∧ PySem.W.nsIn X.K d z = some r ∧ Q (.bl (!r.isSome)) H) := by
  obtain ⟨es, n, D⟩ := h
  exact op_notIn_kd D
end

/-! ### defs that raise own exceptions -/
theorem kit_own {K : PySem.W.Frag} {B C : Addr} (h1 : PySem.W.subIn K (.ref C) (.type "BaseException") = some true) (h2 : PySem.W.typeIn K (.ref C) = some (.type "type")) (h3 : PySem.W.subIn K (.ref B) (.ref C) = some true) : PySem.W.kitOne K (.ref B) (.ref C) = some true := by
  have h0 : (PySem.W.clsIn K C).isSome = true := by
    have h1 : PySem.W.mroIn K C (.type "BaseException") = some true := h1
    unfold PySem.W.mroIn at h1
    cases e : PySem.W.clsIn K C with
    | some _ => rfl
    | none => rw [e] at h1; cases h1
  unfold PySem.W.kitOne
  split
  · rfl
  · show (if ((PySem.W.clsIn K C).isSome && PySem.W.typeIn K (.ref C) == some (.type "type")) = true then PySem.W.subIn K (.ref B) (.ref C) else none) = some true
    rw [h0, h2, h3]
    rfl
section
variable {X : Cx}
/-- C() of an own exception class without an __init__ of its own -/
theorem pmk_own0 {x : Str} {C : Addr} {bmB : List Value} {B newId initId : String} {p pos : Pos} (F : ExcBaseFacts B newId initId bmB) (q : PySem.W.excIn X.K C bmB newId = true) (gC : X.mg x = some (.ref C)) (kC : PySem.W.keepIn X.K (.ref C) = true) (r : Raises X (.ref C)) (hg : Gl X x)
    (hdb : (x == ("__debug__" : Str)) = false := by decide) : PMk X (.Call (.Name x p) [] [] pos) (fun _ H Q => Q (.ref C) none H) := by
  intro pins s σ H Q I h
  refine wpAny_Call_Name_kw (ld_glob I hg gC ?_ hdb)
  refine PySem.W.callWith_K0 I.kIn kC ?_
  show wpAny _ _ (call (.ref C) []) _ _ _
  obtain ⟨bm, N, nm, qn, bs, hdct, sn, sub, ab, col, dd, k0, k1, k2, k3, k5, mN, hC, hN, hni, T⟩ := exc_obj I.kIn q
  refine wpAny_call_exc_subT F T hC hN hni (fun h' e hm => ?_) (Nat.zero_le _)
  exact mk_of I hm r h (I.hok.gone hm.new)
end
/-- an own exception class over ValueError -/
structure ExOk (K : PySem.W.Frag) (mg : Str → Option Value) (x : Str) (C : Addr) : Prop where
  ex : PySem.W.excIn K C [.type "ValueError", .type "Exception", .type "BaseException", .type "object"] "ValueError.__new__" = true
  g : mg x = some (.ref C)
  kp : PySem.W.keepIn K (.ref C) = true
  bp : PySem.W.subIn K (.ref C) (.type "BaseException") = some true
  tp : PySem.W.typeIn K (.ref C) = some (.type "type")
  hd : PySem.W.hasDictIn K C = true
theorem ExOk.exm {K : PySem.W.Frag} {mg : Str → Option Value} {x : Str} {C : Addr} {cls : Value} {b : Bool} (e : ExOk K mg x C) (h : PySem.W.subIn K cls (.ref C) = some b) : PySem.W.exmOne K cls (.ref C) = some b := PySem.W.exm_ref e.bp e.hd e.tp h
theorem pmk_ok {X : Cx} {x : Str} {C : Addr} {p pos : Pos} (e : ExOk X.K X.mg x C) (hg : Gl X x) (hdb : (x == ("__debug__" : Str)) = false := by decide) : PMk X (.Call (.Name x p) [] [] pos) (fun _ H Q => Q (.ref C) none H) :=
  pmk_own0 PySem.F.excBase_ValueError e.ex e.g e.kp (raises_own e.bp e.tp) hg hdb
/-! the promises of such defs -/
structure CalX (P : Program) (w : World) (K : PySem.W.Frag) (mg : Str → Option Value) (base : Heap) (k : Nat) (x : Str) (sp : Sp) : Prop where
  ex : ∃ (f : Addr) (fd : FuncData) (ps : List Str), FnOk P w K mg base (L2.CX P w) k f fd ps sp ∧ mg x = some (.ref f) ∧ PySem.W.keepIn K (.ref f) = true ∧ Binds K fd ps []
structure MetX (P : Program) (w : World) (K : PySem.W.Frag) (mg : Str → Option Value) (base : Heap) (k : Nat) (C : Addr) (m : Str) (sp : Sp) : Prop where
  ex : ∃ (f : Addr) (fd : FuncData) (ps : List Str), Cls K C ∧ Meth K C m f ∧ FnOk P w K mg base (L2.CX P w) k f fd ps sp ∧ Binds K fd ps []
structure MakX (P : Program) (w : World) (K : PySem.W.Frag) (mg : Str → Option Value) (base : Heap) (k : Nat) (x : Str) (C : Addr) (sp : Sp) : Prop where
  ex : ∃ (f : Addr) (fd : FuncData) (ps : List Str), Mk K C f ∧ FnOk P w K mg base (L2.CX P w) k f fd ps sp ∧ mg x = some (.ref C) ∧ Binds K fd ps []
section
variable {P : Program} {w : World} {K : PySem.W.Frag} {mg : Str → Option Value} {base : Heap}
theorem calX {x : Str} {st : Stmt} {N ps : List Str} {k : Nat} {sp : Sp} (D : DefOk K mg x st ps) (S : FnScope N ps (defScope st)) (len : ∀ vs H Q E, sp vs H Q E → vs.length = ps.length)
    (hbody : ∀ (f : Addr) (cdv : Value) (A : Around) (outer : List Env) (s : Shared) (H : Hp) (vs : List V) (Q : VK) (E : XK), Room k (A.deeper (envOfC x (defScope st) s.heap.objs.size f cdv)) → sp vs H Q E →
      ∃ t, PSs (cxOf (L2.CX P w) P w K mg base N x (defScope st) f cdv A outer s H E) (defBody st) t ∧ t { nx := fun _ H' => Q .non H', rt := Q } (start N vs) H) : CalX P w K mg base (k + 1) x sp := by
  obtain ⟨f, fd, F, hm, b⟩ := D.ex
  exact ⟨f, fd, ps, F.okX S len (fun cdv A outer s H vs Q E hr h => hbody f cdv A outer s H vs Q E hr h), hm, F.kp, b⟩
theorem metX {C : Addr} {m qual : Str} {st : Stmt} {N ps : List Str} {k : Nat} {sp : Sp} (c : Cls K C) (D : MethOk K C m qual st ps) (S : FnScope N ps (defScope st)) (len : ∀ vs H Q E, sp vs H Q E → vs.length = ps.length)
    (hbody : ∀ (f : Addr) (cdv : Value) (A : Around) (outer : List Env) (s : Shared) (H : Hp) (vs : List V) (Q : VK) (E : XK), Room k (A.deeper (envOfC qual (defScope st) s.heap.objs.size f cdv)) → sp vs H Q E →
      ∃ t, PSs (cxOf (L2.CX P w) P w K mg base N qual (defScope st) f cdv A outer s H E) (defBody st) t ∧ t { nx := fun _ H' => Q .non H', rt := Q } (start N vs) H) : MetX P w K mg base (k + 1) C m sp := by
  obtain ⟨f, fd, M, F, b⟩ := D.ex
  exact ⟨f, fd, ps, c, M, F.okX S len (fun cdv A outer s H vs Q E hr h => hbody f cdv A outer s H vs Q E hr h), b⟩
theorem makX {C : Addr} {x qual : Str} {st : Stmt} {N ps : List Str} {k : Nat} {sp : Sp} (hm : mg x = some (.ref C)) (D : MakOk K C qual st ps) (S : FnScope N ps (defScope st)) (len : ∀ vs H Q E, sp vs H Q E → vs.length = ps.length)
    (hbody : ∀ (f : Addr) (cdv : Value) (A : Around) (outer : List Env) (s : Shared) (H : Hp) (vs : List V) (Q : VK) (E : XK), Room k (A.deeper (envOfC qual (defScope st) s.heap.objs.size f cdv)) → sp vs H Q E →
      ∃ t, PSs (cxOf (L2.CX P w) P w K mg base N qual (defScope st) f cdv A outer s H E) (defBody st) t ∧ t { nx := fun _ H' => Q .non H', rt := Q } (start N vs) H) : MakX P w K mg base (k + 1) x C sp := by
  obtain ⟨f, fd, M, F, b⟩ := D.ex
  exact ⟨f, fd, ps, M, F.okX S len (fun cdv A outer s H vs Q E hr h => hbody f cdv A outer s H vs Q E hr h), hm, b⟩
end
/-! their calls: E tells at the slots what is wished of an error -/
section
variable {X : Cx} {k j : Nat} {C : Addr} {x m : Str} {sp : Sp} {p pos apos : Pos} {e o : Expr} {es : List Expr} {ta : TE} {t : TA} {E : L2.St → XK}
theorem pe_cX (c : CalX X.prog X.w X.K X.mg X.base k x sp) (hr : Room j X.A) (hk : k ≤ j) (hg : Gl X x) (hx : ∀ σ, PassesAt (L2.CX X.prog X.w) X σ (E σ)) (ha : PA X (e :: es) t)
    (hdb : (x == ("__debug__" : Str)) = false := by decide) (he : starEach (e :: es) X.env = (false, eval e X.env) :: starEach es X.env := by rfl) (hpl : (backTo pos (starEach es X.env)).any (·.1) = false := by rfl) :
    PE X (.Call (.Name x p) (e :: es) [] pos) (tCallS sp E t) := by
  obtain ⟨f, fd, ps, F, hm, kp, b⟩ := c.ex
  exact pe_callS F (hr.mono hk) hg hm kp b hx ha hdb he hpl
/-- where nothing is raised -/
theorem pe_cXn (c : CalX X.prog X.w X.K X.mg X.base k x sp) (hr : Room j X.A) (hk : k ≤ j) (hg : Gl X x) (ha : PA X (e :: es) t)
    (hdb : (x == ("__debug__" : Str)) = false := by decide) (he : starEach (e :: es) X.env = (false, eval e X.env) :: starEach es X.env := by rfl) (hpl : (backTo pos (starEach es X.env)).any (·.1) = false := by rfl) :
    PE X (.Call (.Name x p) (e :: es) [] pos) (tCall sp [] L2.E0 t) := by
  obtain ⟨f, fd, ps, F, hm, kp, b⟩ := c.ex
  exact pe_call F (hr.mono hk) hg hm kp b .nil passL ha hdb he hpl
def tMethX (C : Addr) (m : Str) (sp : Sp) (E : L2.St → XK) (ta : TE) (t : TA) : TE := fun σ H Q => ta σ H fun x H1 => ∃ a dx fs, x = .ref a ∧ H1 a = some (.ins C dx fs) ∧ fs.lookup m = none ∧ t σ H1 fun vs H2 => sp (.ref a :: vs) H2 Q (E σ)
theorem pe_mtX {pl : Sem Bool} (c : MetX X.prog X.w X.K X.mg X.base k C m sp) (hr : Room j X.A) (hk : k ≤ j) (hx : ∀ σ, PassesAt (L2.CX X.prog X.w) X σ (E σ)) (he : PE X o ta) (ha : PA X (e :: es) t)
    (hst : starEach (e :: es) X.env = (false, eval e X.env) :: starEach es X.env := by rfl) (hpl : (backTo pos (starEach es X.env)).any (·.1) = false := by rfl)
    (ht : eval (.Call (.Attribute o m apos) (e :: es) [] pos) X.env = (do
      let ov ← eval o X.env
      standAt apos.atName
      let (f, first) ← holding [ov] (getMethod ov m pl)
      callWith pos f first (backTo pos (starEach (e :: es) X.env)) (backToKw pos (keywordEach [] X.env))) := by rfl) :
    PE X (.Call (.Attribute o m apos) (e :: es) [] pos) (tMethX C m sp E ta t) := by
  obtain ⟨f, fd, ps, hc, hm, F, b⟩ := c.ex
  refine ⟨fun pins s σ H Q I h => ?_⟩
  refine PySem.W.methodCall_KW (pl := pl) (thn (he.run pins s σ H _ I h) fun u s1 ⟨x, H1, I1, rx, a, dx, fs, ex, ea, l, q⟩ => ?_) ht
  subst ex
  obtain rfl : u = Value.ref a := rx
  refine getmeth_ok I1 ea hc hm l ?_
  refine PySem.W.callWith_K (first := [.ref a]) (h₀ := X.base) I.ok.mod.kin hm.kp (thn (ha.run pos pins s1 σ H1 _ I1 q) fun us s2 ⟨vs, H2, I2, r, q2⟩ => ⟨I2.kIn, ?_⟩) hst hpl
  exact run_fnS (us := .ref a :: us) (vs := .ref a :: vs) F (hr.mono hk) b (hx σ) I2 (.cons rfl r) q2
theorem pe_mtX0 {pl : Sem Bool} (c : MetX X.prog X.w X.K X.mg X.base k C m sp) (hr : Room j X.A) (hk : k ≤ j) (hx : ∀ σ, PassesAt (L2.CX X.prog X.w) X σ (E σ)) (he : PE X o ta)
    (ht : eval (.Call (.Attribute o m apos) [] [] pos) X.env = (do
      let ov ← eval o X.env
      standAt apos.atName
      let (f, first) ← holding [ov] (getMethod ov m pl)
      callWith pos f first (backTo pos (starEach [] X.env)) (backToKw pos (keywordEach [] X.env))) := by rfl) :
    PE X (.Call (.Attribute o m apos) [] [] pos) (tMethX C m sp E ta tNil) := by
  obtain ⟨f, fd, ps, hc, hm, F, b⟩ := c.ex
  refine ⟨fun pins s σ H Q I h => ?_⟩
  refine PySem.W.methodCall_KW (pl := pl) (thn (he.run pins s σ H _ I h) fun u s1 ⟨x, H1, I1, rx, a, dx, fs, ex, ea, l, q⟩ => ?_) ht
  subst ex
  obtain rfl : u = Value.ref a := rx
  refine getmeth_ok I1 ea hc hm l ?_
  exact PySem.W.callWith_K0 (first := [.ref a]) I1.kIn hm.kp (run_fnS (us := [.ref a]) (vs := [.ref a]) F (hr.mono hk) b (hx σ) I1 (.cons rfl .nil) q)
def tMakeX (C : Addr) (sp : Sp) (E : L2.St → XK) (t : TA) : TE := fun σ H Q => t σ H fun vs H1 => ∀ x dx, H1 x = none → H1 dx = none → dx ≠ x → sp (.ref x :: vs) (upd (upd H1 dx (.own x)) x (.ins C dx [])) (fun v H2 => v = .non ∧ Q (.ref x) H2) (E σ)
theorem run_makeX {CX : CXT} {f : Addr} {fd : FuncData} {ps : List Str} {pins : List (Addr × Obj)} {σ : L2.St} {H : Hp} {s : Shared} {Q : VK} {us : List Value} {vs : List V} {Eσ : XK} (M : Mk X.K C f) (F : FnOk X.prog X.w X.K X.mg X.base CX k f fd ps sp) (hr : Room (k + 1) X.A) (hb : Binds X.K fd ps [])
    (hx : PassesAt CX X σ Eσ) (I : Inv X pins σ H s) (r : Vals vs us)
    (h : ∀ x dx, H x = none → H dx = none → dx ≠ x → sp (.ref x :: vs) (upd (upd H dx (.own x)) x (.ins C dx [])) (fun v H2 => v = .non ∧ Q (.ref x) H2) Eσ) :
    wpAny (model X.prog X.w) X.A (call (.ref C) us) (EP X pins σ Q) X.xe s := by
  have hq := h (s.heap.objs.size + 1) s.heap.objs.size (I.hok.fresh (Nat.le_succ _)) (I.hok.fresh (Nat.le_refl _)) (Nat.ne_of_lt (Nat.lt_succ_self _))
  have I2 := Inv.made (C := C) I
  have r2 : Vals (V.ref (s.heap.objs.size + 1) :: vs) (Value.ref (s.heap.objs.size + 1) :: us) := .cons rfl r
  have hl : (Value.ref (s.heap.objs.size + 1) :: us ++ ([] : List Value)).length = ps.length := by
    have e := r2.length
    rw [F.len _ _ _ _ hq] at e
    rw [List.append_nil]
    exact e.symm
  have hb' := hb _ (Value.ref (s.heap.objs.size + 1) :: us) I2.kIn hl
  rw [List.append_nil] at hb'
  refine wpAny_call (make_map (f := f) I.kIn M.makes M.init (beq_iff_eq.mp M.fn) (codeAny_mono (F.run _ X.stack _ _ ⟨Value.ref (s.heap.objs.size + 1) :: us, []⟩ (Value.ref (s.heap.objs.size + 1) :: us) _ _ Eσ (hr.make C us [])
    (I2.env0.make C us []) hb' r2 hq) fun r s' hq' => ?_))
  cases r with
  | error e => exact hx pins _ _ e s' I2 hq'
  | ok fl =>
    cases fl with
    | ret u =>
      obtain ⟨v, H', I3, rv, ev, q3⟩ := I2.after hq'
      subst ev
      exact ⟨rv, ⟨V.ref (s.heap.objs.size + 1), H', I3, rfl, q3⟩⟩
    | next => exact False.elim hq'
    | brk => exact False.elim hq'
    | cont => exact False.elim hq'
theorem pe_mkX (c : MakX X.prog X.w X.K X.mg X.base k x C sp) (hr : Room j X.A) (hk : k + 1 ≤ j) (hg : Gl X x) (hx : ∀ σ, PassesAt (L2.CX X.prog X.w) X σ (E σ)) (ha : PA X (e :: es) t)
    (hdb : (x == ("__debug__" : Str)) = false := by decide) (he : starEach (e :: es) X.env = (false, eval e X.env) :: starEach es X.env := by rfl) (hpl : (backTo pos (starEach es X.env)).any (·.1) = false := by rfl) :
    PE X (.Call (.Name x p) (e :: es) [] pos) (tMakeX C sp E t) := by
  obtain ⟨f, fd, ps, M, F, hm, b⟩ := c.ex
  refine ⟨fun pins s σ H Q I h => ?_⟩
  refine wpAny_Call_Name_kw (ld_glob I hg hm ?_ hdb)
  refine PySem.W.callWith_K (h₀ := X.base) I.ok.mod.kin M.kp (thn (ha.run pos pins s σ H _ I h) fun us s1 ⟨vs, H1, I1, r, q⟩ => ⟨I1.kIn, ?_⟩) he hpl
  exact run_makeX M F (hr.mono hk) b (hx σ) I1 r q
/-- where nothing is let out: for the calls above in a def without errors -/
theorem no_pass : ∀ σ : L2.St, PassesAt (L2.CX X.prog X.w) X σ ((fun _ => L2.E0) σ) := fun σ pins H s e s' I c => passL pins σ H s e s' I c
end

/-! ### x.translate({37: None}) of an ASCII text: the sign with code 37 is left out -/
section
open PySem PySem.Builtin PySem.Builtin.Str
/-- what the table tells of a sign -/
def Tl37 {prog : Program} {w : World} (f : Key → Option Value) : Prop := ∀ c : Nat, f (Sum.inl (c : Int)) = if c = 37 then some Value.none else none
theorem mapOfK {prog : Program} {w : World} {h h' : Heap} {a : Addr} {f : Key → Option Value} (m : h.MapOf (mixKind prog w) a f) (k : ∀ b o, h.get? b = some o → h'.get? b = some o) : h'.MapOf (mixKind prog w) a f := by
  obtain ⟨o, es, ep, ho, r⟩ := m
  exact ⟨o, es, ep, k _ _ ho, r⟩
theorem tl37 {prog : Program} {w : World} {A : Around} {E : Value → Shared → Prop} {s : Shared} {d : Addr} {c : Nat} {f : Key → Option Value} {Q : Mapped → Shared → Prop} (hh : A.handled = none) (hd : (d == sysModules) = false) (hm : s.heap.MapOf (mixKind prog w) d f) (hk : Tl37 (prog := prog) (w := w) f)
    (h1 : c = 37 → ∀ h' k, (∀ b o, s.heap.get? b = some o → h'.get? b = some o) → Q .drop { s with heap := h', toks := k })
    (h2 : c ≠ 37 → ∀ h' k, (∀ b o, s.heap.get? b = some o → h'.get? b = some o) → Q .keep { s with heap := h', toks := k }) : wpAny (model prog w) A (tableLookup (.ref d) c) Q E s := by
  unfold tableLookup
  refine wpAny_bind (wpAny_attempt (wpAny_bind (wpAny_mkInt ?_)))
  have hf := hk c
  by_cases hc : c = 37
  · rw [if_pos hc] at hf
    refine wpAny_getItem_of (knd := mixKind prog w) (k := Sum.inl (c : Int)) (mixKind_int prog w _ _) hm hf ?_
    exact wpAny_pure (h1 hc s.heap _ fun _ _ e => e)
  · rw [if_neg hc] at hf
    refine wpAny_getItem_missing_of (knd := mixKind prog w) (k := Sum.inl (c : Int)) (mixKind_int prog w _ _) hd hh hm hf fun h' e hx => ?_
    show wpAny _ _ (do let b ← isInstance (.ref e) (.type "LookupError"); _) _ _ _
    obtain ⟨ob, t, ho, hc2, _⟩ := hx.there
    refine wpAny_bind (wpAny_isInstance (T := "KeyError") (b := true) ⟨ob, ho, hc2⟩ (by first | rfl | kernel_rfl) ?_)
    show wpAny _ _ (if true = true then (do rule "str.translate.not-in-table"; pure Mapped.keep) else _) _ _ _
    rw [if_pos rfl]
    exact wpAny_bind (wpAny_rule (wpAny_pure (h2 hc h' _ hx.keeps)))
theorem pieces37 : ∀ (l : List Nat) (acc : Array Nat), List.foldl (fun acc (p : Str) => acc ++ p.cps) acc (l.map fun c => (⟨#[c]⟩ : Str)) = acc ++ l.toArray
  | [], acc => by
    show acc = acc ++ #[]
    rw [Array.append_empty]
  | c :: l, acc => by
    rw [List.map_cons, List.foldl_cons, pieces37 l]
    apply Array.toList_inj.mp
    simp
theorem look_new {c c' : Nat} {a b : Option Nat} {known : List (Nat × Option Nat)} (h : List.lookup c' ((c, a) :: known) = some b) : (c' = c ∧ b = a) ∨ List.lookup c' known = some b := by
  rw [List.lookup_cons] at h
  by_cases e : c' = c
  · rw [e, beq_self_eq_true] at h
    exact Or.inl ⟨e, (Option.some.inj h).symm⟩
  · have e2 : (c' == c) = false := beq_eq_false_iff_ne.mpr e
    rw [e2] at h
    exact Or.inr h
def out37 (l : List Nat) : List Nat := l.filter (fun c => decide (c ≠ 37))
def an37 (c : Nat) : Option Nat := if c = 37 then none else some c
/-- what stands while the signs are walked -/
def Tr37 (x : List Nat) (s : Shared) (rest : List Nat) (st : List Str × Nat × Bool × List (Nat × Option Nat) × Bool) (s' : Shared) : Prop :=
  ∃ (past : List Nat) (pieces : List Str) (known : List (Nat × Option Nat)) (h' : Heap) (k : Nat), x = past ++ rest ∧ st = (pieces, (out37 past).length, true, known, false) ∧ pieces.reverse = (out37 past).map (fun c => (⟨#[c]⟩ : Str)) ∧
    (∀ c a, List.lookup c known = some a → a = an37 c) ∧ s' = { s with heap := h', toks := k } ∧ ∀ b o, s.heap.get? b = some o → h'.get? b = some o
theorem Tr37.keep {x : List Nat} {s : Shared} {rest past : List Nat} {c : Nat} {pieces : List Str} {known : List (Nat × Option Nat)} {h' : Heap} {k : Nat} (hc : c ≠ 37) (h1 : x = past ++ c :: rest)
    (h3 : pieces.reverse = (out37 past).map (fun c => (⟨#[c]⟩ : Str))) (h4 : ∀ c a, List.lookup c known = some a → a = an37 c) (h6 : ∀ b o, s.heap.get? b = some o → h'.get? b = some o) :
    Tr37 x s rest (⟨#[c]⟩ :: pieces, (out37 past).length + 1, true, known, false) { s with heap := h', toks := k } := by
  have e : out37 (past ++ [c]) = out37 past ++ [c] := by
    unfold out37
    rw [List.filter_append, List.filter_cons_of_pos (by simpa using hc), List.filter_nil]
  refine ⟨past ++ [c], ⟨#[c]⟩ :: pieces, known, h', k, ?_, ?_, ?_, h4, rfl, h6⟩
  · rw [h1, List.append_assoc] <;> rfl
  · rw [e, List.length_append] <;> rfl
  · rw [e, List.reverse_cons, h3, List.map_append] <;> rfl
theorem Tr37.drop {x : List Nat} {s : Shared} {rest past : List Nat} {c : Nat} {pieces : List Str} {known : List (Nat × Option Nat)} {h' : Heap} {k : Nat} (hc : c = 37) (h1 : x = past ++ c :: rest)
    (h3 : pieces.reverse = (out37 past).map (fun c => (⟨#[c]⟩ : Str))) (h4 : ∀ c a, List.lookup c known = some a → a = an37 c) (h6 : ∀ b o, s.heap.get? b = some o → h'.get? b = some o) :
    Tr37 x s rest (pieces, (out37 past).length, true, known, false) { s with heap := h', toks := k } := by
  have e : out37 (past ++ [c]) = out37 past := by
    unfold out37
    rw [List.filter_append, List.filter_cons_of_neg (by simpa using hc), List.filter_nil, List.append_nil]
  refine ⟨past ++ [c], pieces, known, h', k, ?_, ?_, ?_, h4, rfl, h6⟩
  · rw [h1, List.append_assoc] <;> rfl
  · rw [e]
  · rw [e]; exact h3
theorem meets_tr37 {prog : Program} {w : World} (x : List Nat) (t : Tok) (d : Addr) (hd : (d == sysModules) = false) (hz : x.length ≤ 16000000) (ha : ∀ c ∈ x, c < 128) : MeetsIn prog w («str.translate» ⟨[.str (SX.S x) t, .ref d], []⟩) (fun A R s =>
    A.handled = none ∧ (∃ f, s.heap.MapOf (mixKind prog w) d f ∧ Tl37 (prog := prog) (w := w) f) ∧ ∀ (v : Value) (h' : Heap) (k : Nat), (∀ b o, s.heap.get? b = some o → h'.get? b = some o) → (∃ t', v = .str (SX.S (out37 x)) t') → R (.ok (.ret v)) { s with heap := h', toks := k }) := by
  refine .of_wp fun A R s h => ?_
  obtain ⟨hh, ⟨f, hm, hk⟩, h⟩ := h
  have hh1 : A.in1.handled = none := hh
  show wpAny _ _ (if ((SX.S x).length == 0) = true then (do rule "str.translate.empty"; ret (.str (SX.S x) t)) else (do
    let st ← forIn (SX.S x).cps (([], 0, (SX.S x).cps.all fun y => decide (y < 128), [], false) : List Str × Nat × Bool × List (Nat × Option Nat) × Bool) _
    _)) _ _ s
  by_cases h0 : ((SX.S x).length == 0) = true
  · rw [if_pos h0]
    have hx : x = [] := by
      rw [beq_iff_eq, SX.S_len] at h0
      exact List.eq_nil_of_length_eq_zero h0
    subst hx
    exact wpAny_bind (wpAny_rule (wpAny_pure ⟨_, rfl, h _ s.heap s.toks (fun _ _ e => e) ⟨t, rfl⟩⟩))
  · rw [if_neg h0]
    have hfast : ((SX.S x).cps.all fun y => decide (y < 128)) = true := by
      rw [← Array.all_toList]
      show (x.toArray.toList.all _) = true
      rw [List.toList_toArray, List.all_eq_true]
      exact fun c hc => decide_eq_true (ha c hc)
    rw [hfast]
    refine wpAny_bind (MeetsSeq2.wpAny_forIn_array _ (Tr37 x s) _ (fun c rest st s' hI => ?turn) (fun st s' hI => ?fin) (SX.S x).cps ([], 0, true, [], false) ?h0)
    case h0 =>
      refine ⟨[], [], [], s.heap, s.toks, ?_, rfl, rfl, fun c a z => ?_, rfl, fun _ _ e => e⟩
      · show x = [] ++ x.toArray.toList
        rw [List.toList_toArray, List.nil_append]
      · rw [List.lookup_nil] at z
        cases z
    case turn =>
      obtain ⟨past, pieces, known, h', k, e1, e2, e3, e4, e5, e6⟩ := hI
      subst e2
      subst e5
      have hpl : (out37 past).length ≤ 16000000 := by
        have q := congrArg List.length e1
        rw [List.length_append] at q
        exact Nat.le_trans (List.length_filter_le _ _) (by omega)
      have hm' : ({ s with heap := h', toks := k } : Shared).heap.MapOf (mixKind prog w) d f := mapOfK hm e6
      show wpAny _ _ (if tooLong (out37 past).length = true then _ else (if true = true then _ else _)) _ _ _
      rw [show tooLong (out37 past).length = false from PyProof.Rows.short24 (by omega), if_neg Bool.false_ne_true]
      rw [if_pos rfl]
      cases hl : List.lookup c known with
      | some a =>
        have ha2 := e4 c a hl
        subst ha2
        refine wpAny_bind (wpAny_pure ?_)
        by_cases hc : c = 37
        · have e : an37 c = none := if_pos hc
          rw [e]
          exact wpAny_pure (Tr37.drop hc e1 e3 e4 e6)
        · have e : an37 c = some c := if_neg hc
          rw [e]
          exact wpAny_pure (Tr37.keep hc e1 e3 e4 e6)
      | none =>
        have new : ∀ b, b = an37 c → ∀ c' a, List.lookup c' ((c, b) :: known) = some a → a = an37 c' := fun b hb c' a z => by
          rcases look_new z with ⟨q1, q2⟩ | q
          · rw [q2, hb, q1]
          · exact e4 c' a q
        refine wpAny_bind (tl37 hh1 hd hm' hk (fun hw h2 k2 k3 => ?_) (fun hw h2 k2 k3 => ?_))
        · have e : an37 c = none := if_pos hw
          refine wpAny_bind (wpAny_pure ?_)
          refine wpAny_pure ?_
          exact Tr37.drop (known := (c, none) :: known) hw e1 e3 (new none e.symm) (fun b o z => k3 b o (e6 b o z))
        · have e : an37 c = some c := if_neg hw
          refine wpAny_bind (wpAny_pure ?_)
          refine wpAny_pure ?_
          exact Tr37.keep (known := (c, some c) :: known) hw e1 e3 (new (some c) e.symm) (fun b o z => k3 b o (e6 b o z))
    case fin =>
      obtain ⟨past, pieces, known, h', k, e1, e2, e3, e4, e5, e6⟩ := hI
      subst e2
      subst e5
      have ex : x = past := by rw [e1, List.append_nil]
      have hl : (out37 past).length ≤ 16000000 := by
        rw [← ex]
        exact Nat.le_trans (List.length_filter_le _ _) hz
      show wpAny _ _ (if tooLong (out37 past).length = true then _ else retStr { cps := List.foldl (fun acc (p : Str) => acc ++ p.cps) #[] pieces.reverse }) _ _ _
      rw [show tooLong (out37 past).length = false from PyProof.Rows.short24 (by omega), if_neg Bool.false_ne_true, e3, pieces37, ← ex]
      have ev : (⟨#[] ++ (out37 x).toArray⟩ : Str) = SX.S (out37 x) := by
        rw [Array.empty_append] <;> rfl
      rw [ev]
      exact wpAny_bind (wpAny_mkStr (wpAny_pure ⟨_, rfl, h _ h' _ e6 ⟨_, rfl⟩⟩) (by rw [SX.S_len, sizeLine_eq, ex]; omega))
def rTr37 : V → List V → Hp → VK → Prop := fun x xs H Q => ∃ (t : Str) (d : Addr), x = .str t ∧ xs = [.ref d] ∧ H d = some (.dK [(Sum.inl 37, .non)]) ∧ (∀ c ∈ t.cps.toList, c < 128) ∧ t.length ≤ 16000000 ∧ Q (.str (SX.S (out37 t.cps.toList))) H
theorem mt_tr37 {X : Cx} (hc : X.calm = true) : MtR X "str.translate" rTr37 := by
  intro pins s σ H x xs v us Q I rx rs h
  obtain ⟨a, d, rfl, rfl, hd, ha, h3, h⟩ := h
  obtain ⟨t, rfl⟩ := rx
  obtain ⟨_, low, vs, kv, dd⟩ := dk_of I.hok hd
  cases rs with
  | cons r1 rs =>
    cases rs
    cases r1
    have ea : SX.S a.cps.toList = a := SX.S_tl a
    have hm := dd.mapOf
    have tl : Tl37 (prog := X.prog) (w := X.w) (valueAt vs) := by
      cases kv with
      | cons p r =>
        cases r
        rename_i b
        obtain ⟨k1, v1⟩ := b
        obtain ⟨e1, e2⟩ := p
        have e1 : Sum.inl 37 = k1 := e1
        have e2 : v1 = Value.none := e2
        subst e1 e2
        intro c
        unfold valueAt
        by_cases hc : c = 37
        · subst hc
          rfl
        · rw [if_neg hc]
          have hne : ¬ ((Sum.inl 37 : Key) = Sum.inl (c : Int)) := fun z => hc (by have := Sum.inl.inj z; omega)
          simp [List.find?, hne]
    rw [← ea]
    refine call_meetsIn F.slot_str_translate (typeIs_str _ _ _) F.entry_str_translate (F.args_str_translate_2 _ _) (meets_tr37 a.cps.toList t d low (by rw [Array.length_toList]; exact h3) ha) ⟨I.ok.hd hc, ⟨_, hm, tl⟩, ?_⟩
    intro v h' k hk ⟨t', e⟩
    subst e
    exact ⟨.str _, H, I.kept (t' := k) hk, ⟨t', rfl⟩, h⟩
end

def topS (i : Nat) : Stmt := PySem.Challenge.pw_oathledger_k09_blocks.main.body.getD i (.Pass ⟨0, 0, 0, 0⟩)
abbrev s_is_integer : Stmt := topS 7
theorem sc_is_integer : FnScope ["value", "least", "greatest"] ["value", "least", "greatest"] (defScope s_is_integer) := ⟨rfl, rfl, rfl, by decide +kernel, rfl, by decide +kernel, by decide +kernel⟩
abbrev s_is_printable : Stmt := topS 8
theorem sc_is_printable : FnScope ["value"] ["value"] (defScope s_is_printable) := ⟨rfl, rfl, rfl, by decide +kernel, rfl, by decide +kernel, by decide +kernel⟩
abbrev s_is_short : Stmt := topS 9
theorem sc_is_short : FnScope ["value", "most"] ["value", "most"] (defScope s_is_short) := ⟨rfl, rfl, rfl, by decide +kernel, rfl, by decide +kernel, by decide +kernel⟩
abbrev s_is_client : Stmt := topS 11
theorem sc_is_client : FnScope ["value"] ["value"] (defScope s_is_client) := ⟨rfl, rfl, rfl, by decide +kernel, rfl, by decide +kernel, by decide +kernel⟩
abbrev s_is_number : Stmt := topS 12
theorem sc_is_number : FnScope ["value"] ["value"] (defScope s_is_number) := ⟨rfl, rfl, rfl, by decide +kernel, rfl, by decide +kernel, by decide +kernel⟩
abbrev s_is_command : Stmt := topS 13
theorem sc_is_command : FnScope ["value", "client", "number", "text"] ["value"] (defScope s_is_command) := ⟨rfl, rfl, rfl, by decide +kernel, rfl, by decide +kernel, by decide +kernel⟩
abbrev s_is_command_list : Stmt := topS 14
theorem sc_is_command_list : FnScope ["value", "before", "command"] ["value"] (defScope s_is_command_list) := ⟨rfl, rfl, rfl, by decide +kernel, rfl, by decide +kernel, by decide +kernel⟩
abbrev s_is_block : Stmt := topS 17
theorem sc_is_block : FnScope ["value", "epoch", "parent", "height", "commands"] ["value"] (defScope s_is_block) := ⟨rfl, rfl, rfl, by decide +kernel, rfl, by decide +kernel, by decide +kernel⟩
abbrev s_is_height_above : Stmt := topS 18
theorem sc_is_height_above : FnScope ["parent", "height"] ["parent", "height"] (defScope s_is_height_above) := ⟨rfl, rfl, rfl, by decide +kernel, rfl, by decide +kernel, by decide +kernel⟩
abbrev s_is_genesis : Stmt := topS 19
theorem sc_is_genesis : FnScope ["value", "epoch", "parent", "height", "commands", "zeros"] ["value"] (defScope s_is_genesis) := ⟨rfl, rfl, rfl, by decide +kernel, rfl, by decide +kernel, by decide +kernel⟩
abbrev s_check_block : Stmt := topS 20
theorem sc_check_block : FnScope ["value"] ["value"] (defScope s_check_block) := ⟨rfl, rfl, rfl, by decide +kernel, rfl, by decide +kernel, by decide +kernel⟩
abbrev s_follows : Stmt := topS 21
theorem sc_follows : FnScope ["block", "parent"] ["block", "parent"] (defScope s_follows) := ⟨rfl, rfl, rfl, by decide +kernel, rfl, by decide +kernel, by decide +kernel⟩
abbrev s_command_of : Stmt := topS 22
theorem sc_command_of : FnScope ["block", "client", "command"] ["block", "client"] (defScope s_command_of) := ⟨rfl, rfl, rfl, by decide +kernel, rfl, by decide +kernel, by decide +kernel⟩
abbrev s__law_draws : Stmt := topS 24
theorem sc__law_draws : FnScope ["script", "draws", "k", "cell", "step", "mixed"] ["script"] (defScope s__law_draws) := ⟨rfl, rfl, rfl, by decide +kernel, rfl, by decide +kernel, by decide +kernel⟩
abbrev s__law_next : Stmt := topS 25
theorem sc__law_next : FnScope ["draws", "at", "many", "index"] ["draws", "at", "many"] (defScope s__law_next) := ⟨rfl, rfl, rfl, by decide +kernel, rfl, by decide +kernel, by decide +kernel⟩
abbrev s__law_big : Stmt := topS 26
theorem sc__law_big : FnScope ["draws", "at", "many", "number", "k"] ["draws", "at", "many"] (defScope s__law_big) := ⟨rfl, rfl, rfl, by decide +kernel, rfl, by decide +kernel, by decide +kernel⟩
abbrev s__law_char : Stmt := topS 27
theorem sc__law_char : FnScope ["number", "chars"] ["number"] (defScope s__law_char) := ⟨rfl, rfl, rfl, by decide +kernel, rfl, by decide +kernel, by decide +kernel⟩
abbrev s__law_string : Stmt := topS 28
theorem sc__law_string : FnScope ["draws", "at", "most", "size", "first", "step", "text", "k"] ["draws", "at", "most"] (defScope s__law_string) := ⟨rfl, rfl, rfl, by decide +kernel, rfl, by decide +kernel, by decide +kernel⟩
abbrev s__law_command : Stmt := topS 29
theorem sc__law_command : FnScope ["draws", "at", "client", "number"] ["draws", "at", "client"] (defScope s__law_command) := ⟨rfl, rfl, rfl, by decide +kernel, rfl, by decide +kernel, by decide +kernel⟩
abbrev s__law_commands : Stmt := topS 30
theorem sc__law_commands : FnScope ["draws", "at", "most", "commands", "client", "k"] ["draws", "at", "most"] (defScope s__law_commands) := ⟨rfl, rfl, rfl, by decide +kernel, rfl, by decide +kernel, by decide +kernel⟩
abbrev s__law_block : Stmt := topS 31
theorem sc__law_block : FnScope ["draws", "at", "most", "parent", "epoch", "height"] ["draws", "at", "most"] (defScope s__law_block) := ⟨rfl, rfl, rfl, by decide +kernel, rfl, by decide +kernel, by decide +kernel⟩
abbrev s__law_truth : Stmt := topS 32
theorem sc__law_truth : FnScope ["actual", "expected"] ["actual", "expected"] (defScope s__law_truth) := ⟨rfl, rfl, rfl, by decide +kernel, rfl, by decide +kernel, by decide +kernel⟩
abbrev s__law_bad_block : Stmt := topS 33
theorem sc__law_bad_block : FnScope ["block", "draws", "at", "epoch", "parent", "height", "choice", "wrong"] ["block", "draws", "at"] (defScope s__law_bad_block) := ⟨rfl, rfl, rfl, by decide +kernel, rfl, by decide +kernel, by decide +kernel⟩
abbrev s__law_refused : Stmt := topS 34
theorem sc__law_refused : FnScope ["value", "e"] ["value"] (defScope s__law_refused) := ⟨rfl, rfl, rfl, by decide +kernel, rfl, by decide +kernel, by decide +kernel⟩
abbrev s__law_found : Stmt := topS 35
theorem sc__law_found : FnScope ["block", "command", "clients", "client"] ["block"] (defScope s__law_found) := ⟨rfl, rfl, rfl, by decide +kernel, rfl, by decide +kernel, by decide +kernel⟩
abbrev s__law_children : Stmt := topS 36
theorem sc__law_children : FnScope ["block", "draws", "at", "epoch", "child"] ["block", "draws", "at"] (defScope s__law_children) := ⟨rfl, rfl, rfl, by decide +kernel, rfl, by decide +kernel, by decide +kernel⟩
abbrev s_law : Stmt := topS 37
theorem sc_law : FnScope ["script", "draws", "at", "turn", "block", "wrong", "value", "other"] ["script"] (defScope s_law) := ⟨rfl, rfl, rfl, by decide +kernel, rfl, by decide +kernel, by decide +kernel⟩
structure Txt (K : PySem.W.Frag) (mg : Str → Option Value) (C_BadBlock : Addr) (C_LedgerError : Addr) (C_GENESIS : Addr) (C_GENESIS_3 : Addr) : Prop where
  d_is_integer : DefOk K mg "is_integer" s_is_integer ["value", "least", "greatest"]
  d_is_printable : DefOk K mg "is_printable" s_is_printable ["value"]
  d_is_short : DefOk K mg "is_short" s_is_short ["value", "most"]
  d_is_client : DefOk K mg "is_client" s_is_client ["value"]
  d_is_number : DefOk K mg "is_number" s_is_number ["value"]
  d_is_command : DefOk K mg "is_command" s_is_command ["value"]
  d_is_command_list : DefOk K mg "is_command_list" s_is_command_list ["value"]
  d_is_block : DefOk K mg "is_block" s_is_block ["value"]
  d_is_height_above : DefOk K mg "is_height_above" s_is_height_above ["parent", "height"]
  d_is_genesis : DefOk K mg "is_genesis" s_is_genesis ["value"]
  d_check_block : DefOk K mg "check_block" s_check_block ["value"]
  d_follows : DefOk K mg "follows" s_follows ["block", "parent"]
  d_command_of : DefOk K mg "command_of" s_command_of ["block", "client"]
  d__law_draws : DefOk K mg "_law_draws" s__law_draws ["script"]
  d__law_next : DefOk K mg "_law_next" s__law_next ["draws", "at", "many"]
  d__law_big : DefOk K mg "_law_big" s__law_big ["draws", "at", "many"]
  d__law_char : DefOk K mg "_law_char" s__law_char ["number"]
  d__law_string : DefOk K mg "_law_string" s__law_string ["draws", "at", "most"]
  d__law_command : DefOk K mg "_law_command" s__law_command ["draws", "at", "client"]
  d__law_commands : DefOk K mg "_law_commands" s__law_commands ["draws", "at", "most"]
  d__law_block : DefOk K mg "_law_block" s__law_block ["draws", "at", "most"]
  d__law_truth : DefOk K mg "_law_truth" s__law_truth ["actual", "expected"]
  d__law_bad_block : DefOk K mg "_law_bad_block" s__law_bad_block ["block", "draws", "at"]
  d__law_refused : DefOk K mg "_law_refused" s__law_refused ["value"]
  d__law_found : DefOk K mg "_law_found" s__law_found ["block"]
  d__law_children : DefOk K mg "_law_children" s__law_children ["block", "draws", "at"]
  d_law : DefOk K mg "law" s_law ["script"]
  x_BadBlock : ExOk K mg "BadBlock" C_BadBlock
  x_LedgerError : ExOk K mg "LedgerError" C_LedgerError
  ec_BadBlock : ExcC K C_BadBlock
  kt_BadBlock_LedgerError : PySem.W.kitOne K (.ref C_BadBlock) (.ref C_LedgerError) = some true
  g_GENESIS : mg "GENESIS" = some (.ref C_GENESIS)
  k_GENESIS : KTup K C_GENESIS [.int 0, .int 0, .int 0, .ref C_GENESIS_3]
  k_GENESIS_3 : KTup K C_GENESIS_3 []
  u_BadBlock_BadBlock : PySem.W.subIn K (.ref C_BadBlock) (.ref C_BadBlock) = some true
  c_MOST_CLIENTS : ∃ u, mg "MOST_CLIENTS" = some u ∧ RelV (.int 100) u
  c_MOST_NUMBER : ∃ u, mg "MOST_NUMBER" = some u ∧ RelV (.int 1000000000000) u
  c_MOST_TEXT : ∃ u, mg "MOST_TEXT" = some u ∧ RelV (.int 240) u
  z_abs : mg "abs" = none
  z_bool : mg "bool" = none
  z_int : mg "int" = none
  z_isinstance : mg "isinstance" = none
  z_len : mg "len" = none
  z_list : mg "list" = none
  z_max : mg "max" = none
  z_min : mg "min" = none
  z_range : mg "range" = none
  z_str : mg "str" = none
  z_tuple : mg "tuple" = none
set_option pp.maxSteps 150
/-! ### the draws of a script -/
def Dr (H : Hp) (D A : Addr) : Prop := D ≠ A ∧ ∃ (ds : List Int) (n : Nat), H D = some (.lst (ds.map V.int)) ∧ H A = some (.lst [.int n]) ∧ (∀ d ∈ ds, 0 ≤ d ∧ d < 1000) ∧ ds.length ≤ 2520
/-- all that was tracked but A is as it was -/
def Mod (A : Addr) (H H' : Hp) : Prop := ∀ b o, b ≠ A → H b = some o → H' b = some o
theorem Mod.refl {A : Addr} {H : Hp} : Mod A H H := fun _ _ _ h => h
theorem Mod.trans {A : Addr} {H H1 H2 : Hp} (a : Mod A H H1) (b : Mod A H1 H2) : Mod A H H2 := fun c o n h => b c o n (a c o n h)
theorem Same.mod {A : Addr} {H H' : Hp} (s : Same H H') : Mod A H H' := fun b o _ h => s b o h
theorem Mod.new {A p : Addr} {o : HO} {H H' : Hp} (s : Mod A H H') (h : H' p = none) : Mod A H (upd H' p o) := fun b u n e => by
  rw [upd_ne (ne_of_none (s b u n e) h)]
  exact s b u n e
theorem Dr.new {D A p : Addr} {o : HO} {H : Hp} (d : Dr H D A) (h : H p = none) : Dr (upd H p o) D A := by
  obtain ⟨ne, ds, n, h1, h2, h3⟩ := d
  exact ⟨ne, ds, n, by rw [upd_ne (ne_of_none h1 h)]; exact h1, by rw [upd_ne (ne_of_none h2 h)]; exact h2, h3⟩
theorem Dr.same {D A : Addr} {H H' : Hp} (d : Dr H D A) (s : Same H H') : Dr H' D A := by
  obtain ⟨ne, ds, n, h1, h2, h3⟩ := d
  exact ⟨ne, ds, n, s _ _ h1, s _ _ h2, h3⟩
/-- an object that is neither D nor A is changed -/
theorem Dr.put {D A p : Addr} {o : HO} {H : Hp} (d : Dr H D A) (h1 : p ≠ D) (h2 : p ≠ A) : Dr (upd H p o) D A := by
  obtain ⟨ne, ds, n, e1, e2, h3⟩ := d
  exact ⟨ne, ds, n, by rw [upd_ne h1.symm]; exact e1, by rw [upd_ne h2.symm]; exact e2, h3⟩
theorem Dr.freshA {D A p : Addr} {H : Hp} (d : Dr H D A) (h : H p = none) : p ≠ A := by
  obtain ⟨_, _, _, _, e, _⟩ := d
  exact (ne_of_none e h).symm
theorem Dr.freshD {D A p : Addr} {H : Hp} (d : Dr H D A) (h : H p = none) : p ≠ D := by
  obtain ⟨_, _, _, e, _⟩ := d
  exact (ne_of_none e h).symm
theorem Mod.free {A p : Addr} {H H' : Hp} (s : Mod A H H') (d : ∃ o, H' A = some o) (h : H' p = none) : H p = none := by
  cases e : H p with
  | none => rfl
  | some o =>
    by_cases hp : p = A
    · subst hp
      obtain ⟨o', e'⟩ := d
      rw [e'] at h; cases h
    · rw [s p o hp e] at h; cases h
theorem Dr.A_in {D A : Addr} {H : Hp} (d : Dr H D A) : ∃ o, H A = some o := by
  obtain ⟨_, _, _, _, e, _⟩ := d
  exact ⟨_, e⟩
theorem rng_app {ds : List Int} {x : Int} (h : ∀ d ∈ ds, 0 ≤ d ∧ d < 1000) (h0 : 0 ≤ x) (h1 : x < 1000) : ∀ d ∈ ds ++ [x], 0 ≤ d ∧ d < 1000 := fun d hd => by
  rcases List.mem_append.mp hd with hd | hd
  · exact h d hd
  · rw [List.mem_singleton.mp hd]; exact ⟨h0, h1⟩

def spDraws (K : PySem.W.Frag) : Sp := fun vs H Q _ => ∃ (a : Addr) (ns : List Int), vs = [.ref a] ∧ SqL K H a (ns.map V.int) ∧ ns.length ≤ 63 ∧
  ∀ (H' : Hp) (D : Addr) (ds : List Int), Same H H' → H D = none → H' D = some (.lst (ds.map V.int)) → (∀ d ∈ ds, 0 ≤ d ∧ d < 1000) → ds.length ≤ 2520 → Q (.ref D) H'
def spNext : Sp := fun vs H Q _ => ∃ (D A : Addr) (m : Int), vs = [.ref D, .ref A, .int m] ∧ Dr H D A ∧ 1 ≤ m ∧
  ∀ (H' : Hp) (r : Int), 0 ≤ r → r < m → Mod A H H' → Dr H' D A → Q (.int r) H'
section
variable {P : Program} {w : World} {K : PySem.W.Frag} {mg : Str → Option Value} {base : Heap}
theorem c__law_next {C_BadBlock : Addr} {C_LedgerError : Addr} {C_GENESIS : Addr} {C_GENESIS_3 : Addr} (T : Txt K mg C_BadBlock C_LedgerError C_GENESIS C_GENESIS_3) : Cal P w K mg base 1 "_law_next" spNext [] := by
  refine cal T.d__law_next sc__law_next (fun vs H Q E h => ?_) (fun f cdv A outer s H vs Q E hr h => ?_)
  · obtain ⟨D, A, m, rfl, _⟩ := h; rfl
  obtain ⟨D, A, m, rfl, dr, hm, q⟩ := h
  obtain ⟨ne, ds, n, hD, hA, hrg, hle⟩ := id dr
  refine ⟨_, (pss_cons (ps_set (i := 3) sc__law_next.nd rfl (Or.inl rfl) (pe_ix (kixl (K := K)) (pv 1) pe_int (fun _ _ => rfl)))
      (pss_cons (ps_asg (pe_op op_add (pv 3) pe_int) (pg_sub (pv 1) pe_int set_list))
      (pss_cons (ps_if (pt_cmpR op_lt (pv 3) (pe_callB (klen (K := K)) (by rfl) T.z_len (by decide +kernel) (pa_cons (pv 0) pa_nil)) (nomark _)) (pss_one (ps_ret (pe_op op_mod (pe_callTy call_int1 (by rfl) T.z_int (by decide +kernel) (pa_cons (pe_ix (kixl (K := K)) (pv 0) (pv 3) (fun _ _ => rfl)) pa_nil)) (pv 2)))) pss_nil)
      (pss_one (ps_ret pe_int))))), ?_⟩
  walk_at "rds"
  refine ⟨A, _, (0 : Int), _, rfl, rfl, sq hA, atI_nat (j := 0) rfl, ?_⟩
  walk_at "rds"
  refine ⟨A, _, (0 : Int), 0, rfl, rfl, hA, rfl, ?_⟩
  have hD' : (upd H A (.lst [.int ((n : Int) + 1)])) D = some (.lst (ds.map V.int)) := by rw [upd_ne ne]; exact hD
  have md : Mod A H (upd H A (.lst [.int ((n : Int) + 1)])) := fun b o hb e => by rw [upd_ne hb]; exact e
  have dr' : Dr (upd H A (.lst [.int ((n : Int) + 1)])) D A := ⟨ne, ds, n + 1, hD', upd_same, hrg, hle⟩
  walk_at "rds"
  refine ⟨D, _, rfl, .inl (sq hD'), ?_⟩
  walk_at "rds"
  refine ite2 (fun e => ?_) (fun e => ?_)
  · have e := of_decide_eq_true e
    rw [List.length_map] at e
    have e1 : n < ds.length := by omega
    have g : (ds.map V.int)[n]? = some (.int ds[n]) := by
      rw [List.getElem?_map, List.getElem?_eq_getElem e1]; rfl
    walk_at "rds"
    refine ⟨D, _, (n : Int), _, rfl, rfl, sq hD', atI_nat g, ?_⟩
    walk_at "rds"
    exact q _ _ (Int.emod_nonneg _ (by omega)) (Int.emod_lt_of_pos _ (by omega)) md dr'
  · exact q _ _ (by omega) (by omega) md dr'
theorem c__law_draws {C_BadBlock : Addr} {C_LedgerError : Addr} {C_GENESIS : Addr} {C_GENESIS_3 : Addr} (T : Txt K mg C_BadBlock C_LedgerError C_GENESIS C_GENESIS_3) : Cal P w K mg base 1 "_law_draws" (spDraws K) [] := by
  refine cal T.d__law_draws sc__law_draws (fun vs H Q E h => ?_) (fun f cdv A outer s H vs Q E hr h => ?_)
  · obtain ⟨a, ns, rfl, _⟩ := h; rfl
  obtain ⟨a, ns, rfl, hS, hlen, q⟩ := h
  refine ⟨_, (pss_cons (ps_set (i := 1) sc__law_draws.nd rfl (Or.inl rfl) (pe_lst pa_nil))
      (pss_cons (ps_for PassesOwn.never rfl (pi_range1 (by rfl) T.z_range (pa_cons (pe_callB (klen (K := K)) (by rfl) T.z_len (by decide +kernel) (pa_cons (pv 0) pa_nil)) pa_nil)) (pg_name (i := 2) sc__law_draws.nd rfl (Or.inl rfl)) (pss_cons (ps_set (i := 3) sc__law_draws.nd rfl (Or.inl rfl) (pe_callB call_abs (by rfl) T.z_abs (by decide +kernel) (pa_cons (pe_ix (kixl (K := K)) (pv 0) (pv 2) (fun _ _ => rfl)) pa_nil)))
      (pss_one (ps_if (pt_cmpR op_ge (pv 3) (pe_op op_pow pe_int pe_int) (nomark _)) (pss_one (ps_for PassesOwn.never rfl (pi_range1 (by rfl) T.z_range (pa_cons pe_int pa_nil)) (pg_name (i := 4) sc__law_draws.nd rfl (Or.inl rfl)) (pss_cons (ps_expr (pe_bm PySem.F.plainAttrs_list PySem.F.slot_list_append PySem.F.type_list_append mt_append (pv 1) (pa_cons (pe_op op_mod (pe_callTy call_int1 (by rfl) T.z_int (by decide +kernel) (pa_cons (pv 3) pa_nil)) pe_int) pa_nil)))
      (pss_one (ps_set (i := 3) sc__law_draws.nd rfl (Or.inl rfl) (pe_op op_fdiv (pv 3) pe_int)))))) (pss_cons (ps_set (i := 5) sc__law_draws.nd rfl (Or.inl rfl) (pe_op op_add (pv 3) pe_int))
      (pss_one (ps_for PassesOwn.never rfl (pi_range1 (by rfl) T.z_range (pa_cons pe_int pa_nil)) (pg_name (i := 4) sc__law_draws.nd rfl (Or.inl rfl)) (pss_cons (ps_set (i := 5) sc__law_draws.nd rfl (Or.inl rfl) (pe_op op_mod (pe_callTy call_int1 (by rfl) T.z_int (by decide +kernel) (pa_cons (pe_op op_add (pe_op op_add (pe_op op_mul (pv 5) pe_int) (pe_op op_mul pe_int (pe_op op_add (pv 2) (pv 4)))) pe_int) pa_nil)) pe_int))
      (pss_cons (ps_set (i := 5) sc__law_draws.nd rfl (Or.inl rfl) (pe_op op_mod (pe_callTy call_int1 (by rfl) T.z_int (by decide +kernel) (pa_cons (pe_op op_add (pe_op op_mul (pv 5) pe_int) pe_int) pa_nil)) pe_int))
      (pss_one (ps_expr (pe_bm PySem.F.plainAttrs_list PySem.F.slot_list_append PySem.F.type_list_append mt_append (pv 1) (pa_cons (pe_op op_mod (pe_callTy call_int1 (by rfl) T.z_int (by decide +kernel) (pa_cons (pe_op op_fdiv (pv 5) pe_int) pa_nil)) pe_int) pa_nil)))))))))))))
      (pss_one (ps_ret (pv 1))))), ?_⟩
  refine ⟨by decide, fun D hD => ?_⟩
  walk_at "rds"
  refine ⟨a, _, rfl, .inl ((same_upd hD).seq hS), ?_⟩
  refine ⟨_, rfl, by rw [List.length_map]; omega, by rw [List.length_map]; omega, ?_⟩
  refine for_it walk_range (Pv := fun i σ H' => ∃ y2 y3 y4 y5 ds, σ = [some (.ref a), some (.ref D), y2, y3, y4, y5] ∧ Same H H' ∧ H' D = some (.lst (ds.map V.int)) ∧ (∀ d ∈ ds, 0 ≤ d ∧ d < 1000) ∧ ds.length ≤ 40 * i) ⟨none, none, none, none, [], rfl, same_upd hD, upd_same, by simp, by simp⟩ (fun _ _ _ _ _ => trivial) (fun i x σ H1 H2 hi hp hy => ?_) (fun σ H1 hp => ?_)
  · obtain ⟨y2, y3, y4, y5, ds, rfl, sm, hd, hrg, hl⟩ := hp
    obtain ⟨rfl, rfl⟩ := hy
    have hi' : i < ns.length := by rw [List.length_map] at hi; omega
    have g : (ns.map V.int)[i]? = some (.int ns[i]) := by
      rw [List.getElem?_map, List.getElem?_eq_getElem hi']; rfl
    have e0 : (0 : Int) + (i : Int) = (i : Int) := by omega
    walk_at "rds"
    refine ⟨a, _, (i : Int), _, rfl, by show V.int (0 + (i : Int)) = V.int i; rw [e0], sm.seq hS, atI_nat g, ?_⟩
    walk_at "rds"
    have hc0 : (0 : Int) ≤ (if ns[i] < 0 then -ns[i] else ns[i]) := by split <;> omega
    generalize (if ns[i] < 0 then -ns[i] else ns[i]) = c at hc0
    refine ite2 (fun e => ?_) (fun e => ?_)
    · refine ⟨40, rfl, by decide, by decide, ?_⟩
      refine for_it walk_range (Pv := fun j σ H' => ∃ y4 ds c, σ = [some (.ref a), some (.ref D), some (.int (0 + (i : Int))), some (.int c), y4, y5] ∧ Same H H' ∧ H' D = some (.lst (ds.map V.int)) ∧ (∀ d ∈ ds, 0 ≤ d ∧ d < 1000) ∧ ds.length ≤ 40 * i + j ∧ 0 ≤ c) ⟨y4, ds, c, rfl, sm, hd, hrg, by omega, hc0⟩ (fun _ _ _ _ _ => trivial) (fun j x σ H3 H4 hj hp hy => ?_) (fun σ H3 hp => ?_)
      · obtain ⟨z4, ds, c, rfl, sm, hd, hrg, hl, hc0⟩ := hp
        obtain ⟨rfl, rfl⟩ := hy
        refine ⟨.ref D, rfl, .inl ⟨rfl, _, sq hd⟩, ?_⟩
        walk_at "rds"
        have hj' : j < 40 := hj
        refine ⟨_, _, _, rfl, rfl, hd, by rw [List.length_map]; exact sz1000' (by omega), ?_⟩
        refine ⟨_, rfl, _, _, rfl, rfl, ⟨by decide, by decide⟩, ?_⟩
        refine ⟨_, ds ++ [c % 1000], c / 1000, rfl, same_mut sm hD, lst_app, rng_app hrg (by omega) (by omega), ?_, by omega⟩
        rw [List.length_append, List.length_singleton]; omega
      · obtain ⟨z4, ds, c, rfl, sm, hd, hrg, hl, hc0⟩ := hp
        exact ⟨_, _, _, _, ds, rfl, sm, hd, hrg, by have : (40 : Int).toNat = 40 := rfl; omega⟩
    · have hc1 : c < 10 ^ 18 := by
        have : ¬ ((10 : Int) ^ (18 : Int).toNat ≤ c) := fun z => e (decide_eq_true z)
        have e18 : (10 : Int) ^ (18 : Int).toNat = 10 ^ 18 := rfl
        omega
      walk_at "rds"
      refine for_it walk_range (Pv := fun j σ H' => ∃ y4 ds m, σ = [some (.ref a), some (.ref D), some (.int (0 + (i : Int))), some (.int c), y4, some (.int m)] ∧ Same H H' ∧ H' D = some (.lst (ds.map V.int)) ∧ (∀ d ∈ ds, 0 ≤ d ∧ d < 1000) ∧ ds.length ≤ 40 * i + j ∧ 0 ≤ m ∧ m ≤ 10 ^ 18) ⟨y4, ds, _, rfl, sm, hd, hrg, by omega, by omega, by omega⟩ (fun _ _ _ _ _ => trivial) (fun j x σ H3 H4 hj hp hy => ?_) (fun σ H3 hp => ?_)
      · obtain ⟨z4, ds, m, rfl, sm, hd, hrg, hl, hm0, hm1⟩ := hp
        obtain ⟨rfl, rfl⟩ := hy
        have hj' : j < 8 := hj
        walk_at "rds"
        refine ⟨.inl ⟨rfl, _, sq hd⟩, ?_⟩
        walk_at "rds"
        refine ⟨_, _, _, rfl, rfl, hd, by rw [List.length_map]; exact sz1000' (by omega), ?_⟩
        refine ⟨_, ds ++ [_], _, rfl, same_mut sm hD, lst_app, rng_app hrg (by omega) (by omega), ?_, by omega, by omega⟩
        rw [List.length_append, List.length_singleton]; omega
      · obtain ⟨z4, ds, m, rfl, sm, hd, hrg, hl, hm0, hm1⟩ := hp
        exact ⟨_, _, _, _, ds, rfl, sm, hd, hrg, by have : (8 : Int).toNat = 8 := rfl; omega⟩
  · obtain ⟨y2, y3, y4, y5, ds, rfl, sm, hd, hrg, hl⟩ := hp
    refine ⟨.ref D, rfl, ?_⟩
    refine q _ _ _ sm hD hd hrg ?_
    rw [List.length_map] at hl; omega
end

/-! ### drawn numbers and strings -/
def prC (c : Nat) : Bool := decide (32 ≤ c) && decide (c ≤ 126) && decide (c ≠ 37)
def isPr (z : Str) : Bool := z.cps.toList.all prC
theorem app_tl (a b : Str) : (a ++ b).cps.toList = a.cps.toList ++ b.cps.toList := by
  show (a.cps ++ b.cps).toList = _
  rw [Array.toList_append]
theorem len_tl (z : Str) : z.cps.toList.length = z.length := Array.length_toList
theorem isPr_app (a b : Str) : isPr (a ++ b) = (isPr a && isPr b) := by
  unfold isPr
  rw [app_tl, List.all_append]

def spBig : Sp := fun vs H Q _ => ∃ (D A : Addr) (m : Int), vs = [.ref D, .ref A, .int m] ∧ Dr H D A ∧ 1 ≤ m ∧
  ∀ (H' : Hp) (r : Int), 0 ≤ r → r < m → Mod A H H' → Dr H' D A → Q (.int r) H'
def spChar : Sp := fun vs H Q _ => ∃ (n : Int), vs = [.int n] ∧ ∀ c : Nat, prC c = true → Q (.str ⟨#[c]⟩) H
def spString : Sp := fun vs H Q _ => ∃ (D A : Addr) (m : Int), vs = [.ref D, .ref A, .int m] ∧ Dr H D A ∧ 5 ≤ m ∧ m ≤ 1000000 ∧
  ∀ (H' : Hp) (z : Str), z.length ≤ m → isPr z = true → Mod A H H' → Dr H' D A → Q (.str z) H'
section
variable {P : Program} {w : World} {K : PySem.W.Frag} {mg : Str → Option Value} {base : Heap}
theorem c__law_big {C_BadBlock : Addr} {C_LedgerError : Addr} {C_GENESIS : Addr} {C_GENESIS_3 : Addr} (T : Txt K mg C_BadBlock C_LedgerError C_GENESIS C_GENESIS_3) : Cal P w K mg base 2 "_law_big" spBig [] := by
  have c__law_next := c__law_next (P := P) (w := w) (base := base) T
  refine cal T.d__law_big sc__law_big (fun vs H Q E h => ?_) (fun f cdv A' outer s H vs Q E hr h => ?_)
  · obtain ⟨D, A, m, rfl, _⟩ := h; rfl
  obtain ⟨D, A, m, rfl, dr, hm, q⟩ := h
  refine ⟨_, (pss_cons (ps_set (i := 3) sc__law_big.nd rfl (Or.inl rfl) pe_int)
      (pss_cons (ps_for PassesOwn.never rfl (pi_range1 (by rfl) T.z_range (pa_cons pe_int pa_nil)) (pg_name (i := 4) sc__law_big.nd rfl (Or.inl rfl)) (pss_one (ps_set (i := 3) sc__law_big.nd rfl (Or.inl rfl) (pe_op op_add (pe_op op_mul pe_int (pv 3)) (pe_c c__law_next hr (by decide) (by rfl) (pa_cons (pv 0) (pa_cons (pv 1) (pa_cons pe_int pa_nil))))))))
      (pss_one (ps_ret (pe_op op_mod (pe_callTy call_int1 (by rfl) T.z_int (by decide +kernel) (pa_cons (pv 3) pa_nil)) (pv 2)))))), ?_⟩
  walk_at "rds"
  refine for_it walk_range (Pv := fun i σ H' => ∃ (n : Int) (y : Option V), σ = [some (.ref D), some (.ref A), some (.int m), some (.int n), y] ∧ 0 ≤ n ∧ Mod A H H' ∧ Dr H' D A) ⟨0, none, rfl, by decide, Mod.refl, dr⟩ (fun _ _ _ _ _ => trivial) (fun i x σ H1 H2 hi hp hy => ?_) (fun σ H1 hp => ?_)
  · obtain ⟨n, y, rfl, hn, md, dr⟩ := hp
    obtain ⟨rfl, rfl⟩ := hy
    walk_at "rds"
    refine ⟨D, A, 1000, rfl, dr, by decide, fun H3 r r0 r1 md3 dr3 => ?_⟩
    walk_at "rds"
    exact ⟨_, _, rfl, by omega, md.trans md3, dr3⟩
  · obtain ⟨n, y, rfl, hn, md, dr⟩ := hp
    walk_at "rds"
    exact q _ _ (Int.emod_nonneg _ (by omega)) (Int.emod_lt_of_pos _ (by omega)) md dr
theorem c__law_char {C_BadBlock : Addr} {C_LedgerError : Addr} {C_GENESIS : Addr} {C_GENESIS_3 : Addr} (T : Txt K mg C_BadBlock C_LedgerError C_GENESIS C_GENESIS_3) : Cal P w K mg base 1 "_law_char" spChar [] := by
  refine cal T.d__law_char sc__law_char (fun vs H Q E h => ?_) (fun f cdv A' outer s H vs Q E hr h => ?_)
  · obtain ⟨n, rfl, _⟩ := h; rfl
  obtain ⟨n, rfl, q⟩ := h
  refine ⟨_, (pss_cons (ps_set (i := 1) sc__law_char.nd rfl (Or.inl rfl) pe_str)
      (pss_cons (ps_set (i := 1) sc__law_char.nd rfl (Or.inl rfl) (pe_op op_add_str (pv 1) pe_str))
      (pss_one (ps_ret (pe_ix ix_str (pv 1) (pe_op op_mod (pe_callTy call_int1 (by rfl) T.z_int (by decide +kernel) (pa_cons (pv 0) pa_nil)) pe_int) (fun _ _ => rfl)))))), ?_⟩
  walk_at "rds"
  have e94 : ∀ z : Str, z = Str.ofString " !\"#$&'()*+,-./0123456789:;<=>?@ABCDEFGHIJKLMNOPQRSTUVWXYZ[\\]^_`" ++ Str.ofString "abcdefghijklmnopqrstuvwxyz{|}~" → z.length = 94 ∧ isPr z = true := by
    intro z e; subst e; exact ⟨by decide +kernel, by decide +kernel⟩
  generalize Str.ofString " !\"#$&'()*+,-./0123456789:;<=>?@ABCDEFGHIJKLMNOPQRSTUVWXYZ[\\]^_`" ++ Str.ofString "abcdefghijklmnopqrstuvwxyz{|}~" = z at e94
  obtain ⟨hz, hp⟩ := e94 z rfl
  obtain ⟨c, hc⟩ := chr_at (z := z) (i := n % 94) (by omega) (by rw [hz]; omega)
  have hm : c ∈ z.cps.toList := by
    obtain ⟨j, _, e, _⟩ := atI_get hc
    exact List.mem_of_getElem? e
  refine ⟨_, _, c, rfl, rfl, by rw [hz]; exact sz1000 (by omega), hc, ?_⟩
  exact q c (List.all_eq_true.mp hp c hm)
theorem c__law_string {C_BadBlock : Addr} {C_LedgerError : Addr} {C_GENESIS : Addr} {C_GENESIS_3 : Addr} (T : Txt K mg C_BadBlock C_LedgerError C_GENESIS C_GENESIS_3) : Cal P w K mg base 2 "_law_string" spString [] := by
  have c__law_next := c__law_next (P := P) (w := w) (base := base) T
  have c__law_char := c__law_char (P := P) (w := w) (base := base) T
  refine cal T.d__law_string sc__law_string (fun vs H Q E h => ?_) (fun f cdv A' outer s H vs Q E hr h => ?_)
  · obtain ⟨D, A, m, rfl, _⟩ := h; rfl
  obtain ⟨D, A, m, rfl, dr, hm, hm2, q⟩ := h
  refine ⟨_, (pss_cons (ps_set (i := 3) sc__law_string.nd rfl (Or.inl rfl) (pe_c c__law_next hr (by decide) (by rfl) (pa_cons (pv 0) (pa_cons (pv 1) (pa_cons pe_int pa_nil)))))
      (pss_cut (ps_if (pt_cmpR op_eq (pe_c c__law_next hr (by decide) (by rfl) (pa_cons (pv 0) (pa_cons (pv 1) (pa_cons pe_int pa_nil)))) pe_int (nomark _)) (pss_one (ps_set (i := 3) sc__law_string.nd rfl (Or.inl rfl) (pe_c c__law_next hr (by decide) (by rfl) (pa_cons (pv 0) (pa_cons (pv 1) (pa_cons (pe_op op_add (pv 2) pe_int) pa_nil)))))) pss_nil)
      (pss_cut (ps_if (pt_cmpR op_eq (pe_c c__law_next hr (by decide) (by rfl) (pa_cons (pv 0) (pa_cons (pv 1) (pa_cons pe_int pa_nil)))) pe_int (nomark _)) (pss_one (ps_set (i := 3) sc__law_string.nd rfl (Or.inl rfl) (pv 2))) pss_nil)
      (pss_cons (ps_set (i := 4) sc__law_string.nd rfl (Or.inl rfl) (pe_c c__law_next hr (by decide) (by rfl) (pa_cons (pv 0) (pa_cons (pv 1) (pa_cons pe_int pa_nil)))))
      (pss_cons (ps_set (i := 5) sc__law_string.nd rfl (Or.inl rfl) (pe_c c__law_next hr (by decide) (by rfl) (pa_cons (pv 0) (pa_cons (pv 1) (pa_cons pe_int pa_nil)))))
      (pss_cons (ps_set (i := 6) sc__law_string.nd rfl (Or.inl rfl) pe_str)
      (pss_cons (ps_for PassesOwn.never rfl (pi_range1 (by rfl) T.z_range (pa_cons (pv 3) pa_nil)) (pg_name (i := 7) sc__law_string.nd rfl (Or.inl rfl)) (pss_one (ps_if (pt_cmpR op_lt (pv 7) pe_int (nomark _)) (pss_one (ps_set (i := 6) sc__law_string.nd rfl (Or.inl rfl) (pe_op op_add_str (pv 6) (pe_c c__law_char hr (by decide) (by rfl) (pa_cons (pe_c c__law_next hr (by decide) (by rfl) (pa_cons (pv 0) (pa_cons (pv 1) (pa_cons pe_int pa_nil)))) pa_nil))))) (pss_one (ps_set (i := 6) sc__law_string.nd rfl (Or.inl rfl) (pe_op op_add_str (pv 6) (pe_c c__law_char hr (by decide) (by rfl) (pa_cons (pe_op op_add (pv 4) (pe_op op_mul (pv 5) (pv 7))) pa_nil))))))))
      (pss_one (ps_ret (pv 6)))))))))), ?_⟩
  walk_at "rds"
  refine ⟨D, A, 6, rfl, dr, by decide, fun H1 s1 s10 s11 md1 dr1 => ?_⟩
  obtain ⟨s1, rfl⟩ := Int.eq_ofNat_of_zero_le s10
  refine ⟨fun σ' H' => ∃ n : Nat, σ' = [some (.ref D), some (.ref A), some (.int m), some (.int n), none, none, none, none] ∧ (n : Int) ≤ m ∧ Mod A H H' ∧ Dr H' D A, ?_, ?_⟩
  · walk_at "rds"
    refine ⟨D, A, 7, rfl, dr1, by decide, fun H2 s2 s20 s21 md2 dr2 => ?_⟩
    walk_at "rds"
    refine ite2 (fun _ => ?_) (fun _ => ?_)
    · walk_at "rds"
      refine ⟨D, A, _, rfl, dr2, by omega, fun H3 s3 s30 s31 md3 dr3 => ?_⟩
      obtain ⟨s3, rfl⟩ := Int.eq_ofNat_of_zero_le s30
      exact ⟨s3, rfl, by omega, (md1.trans md2).trans md3, dr3⟩
    · exact ⟨s1, rfl, by omega, md1.trans md2, dr2⟩
  rintro σ' H2 ⟨n, rfl, hn, md2, dr2⟩
  refine ⟨fun σ' H' => ∃ n : Nat, σ' = [some (.ref D), some (.ref A), some (.int m), some (.int n), none, none, none, none] ∧ (n : Int) ≤ m ∧ Mod A H H' ∧ Dr H' D A, ?_, ?_⟩
  · walk_at "rds"
    refine ⟨D, A, 9, rfl, dr2, by decide, fun H3 s3 s30 s31 md3 dr3 => ?_⟩
    walk_at "rds"
    obtain ⟨m, rfl⟩ := Int.eq_ofNat_of_zero_le (show 0 ≤ m by omega)
    refine ite2 (fun _ => ?_) (fun _ => ?_)
    · walk_at "rds"
      exact ⟨m, rfl, by omega, md2.trans md3, dr3⟩
    · exact ⟨n, rfl, by omega, md2.trans md3, dr3⟩
  rintro σ' H3 ⟨n, rfl, hn, md3, dr3⟩
  walk_at "rds"
  refine ⟨D, A, 94, rfl, dr3, by decide, fun H4 f1 f10 f11 md4 dr4 => ?_⟩
  walk_at "rds"
  refine ⟨D, A, 3, rfl, dr4, by decide, fun H5 f2 f20 f21 md5 dr5 => ?_⟩
  walk_at "rds"
  refine for_it walk_range (Pv := fun i σ H' => ∃ (z : Str) (y : Option V), σ = [some (.ref D), some (.ref A), some (.int m), some (.int n), some (.int f1), some (.int f2), some (.str z), y] ∧ z.length = i ∧ isPr z = true ∧ Mod A H H' ∧ Dr H' D A) ⟨Str.ofString "", none, rfl, by decide, by decide, (md3.trans md4).trans md5, dr5⟩ (fun _ _ _ _ _ => trivial) (fun i x σ H6 H7 hi hp hy => ?_) (fun σ H6 hp => ?_)
  · obtain ⟨z, y, rfl, hz, hpz, md, dr⟩ := hp
    obtain ⟨rfl, rfl⟩ := hy
    have hi' : i < n := by omega
    have one : ∀ c : Nat, prC c = true → (z ++ ⟨#[c]⟩ : Str).length = i + 1 ∧ isPr (z ++ ⟨#[c]⟩) = true := fun c hc => by
      refine ⟨by rw [Str.length_append, hz]; rfl, ?_⟩
      rw [isPr_app, hpz]
      show (true && List.all [c] prC) = true
      rw [List.all_cons, hc]; rfl
    walk_at "rds"
    refine ite2 (fun _ => ?_) (fun _ => ?_)
    · walk_at "rds"
      refine ⟨D, A, 94, rfl, dr, by decide, fun H8 f3 f30 f31 md8 dr8 => ?_⟩
      refine ⟨f3, rfl, fun c hc => ?_⟩
      have l1 : (⟨#[c]⟩ : Str).length = 1 := rfl
      refine ⟨_, _, rfl, rfl, by rw [l1]; exact sz1000'' (by omega), ?_⟩
      exact ⟨_, _, rfl, (one c hc).1, (one c hc).2, md.trans md8, dr8⟩
    · walk_at "rds"
      intro c hc
      have l1 : (⟨#[c]⟩ : Str).length = 1 := rfl
      refine ⟨_, _, rfl, rfl, by rw [l1]; exact sz1000'' (by omega), ?_⟩
      exact ⟨_, _, rfl, (one c hc).1, (one c hc).2, md, dr⟩
  · obtain ⟨z, y, rfl, hz, hpz, md, dr⟩ := hp
    walk_at "rds"
    exact q _ z (by omega) hpz md dr
end

/-! ### is_integer, is_printable -/
/-- no int, told by its type -/
def NoInt (K : PySem.W.Frag) (H : Hp) (v : V) : Prop := ∃ T, TyX K H v (.type T) ∧ (kitB T "int" = some false ∨ (kitB T "int" = some true ∧ kitB T "bool" = some true))
def spInt (K : PySem.W.Frag) : Sp := fun vs H Q _ => ∃ (v : V) (lo hi : Int), vs = [v, .int lo, .int hi] ∧ ((∃ i, v = .int i ∧ Q (.bl (decide (lo ≤ i ∧ i ≤ hi))) H) ∨ (NoInt K H v ∧ Q (.bl false) H))
section
variable {P : Program} {w : World} {K : PySem.W.Frag} {mg : Str → Option Value} {base : Heap}
theorem c_is_integer {C_BadBlock : Addr} {C_LedgerError : Addr} {C_GENESIS : Addr} {C_GENESIS_3 : Addr} (T : Txt K mg C_BadBlock C_LedgerError C_GENESIS C_GENESIS_3) : Cal P w K mg base 1 "is_integer" (spInt K) [] := by
  refine cal T.d_is_integer sc_is_integer (fun vs H Q E h => ?_) (fun f cdv A outer s H vs Q E hr h => ?_)
  · obtain ⟨v, lo, hi, rfl, _⟩ := h; rfl
  obtain ⟨v, lo, hi, rfl, h⟩ := h
  refine ⟨_, (pss_one (ps_ret (pe_and (pe_callB (kisi (K := K)) (by rfl) T.z_isinstance (by decide +kernel) (pa_cons (pv 0) (pa_cons (pe_bltn (v := .ty "int") (by rfl) T.z_int (by decide +kernel) rfl) pa_nil))) (pe_and (pe_not (pe_callB (kisi (K := K)) (by rfl) T.z_isinstance (by decide +kernel) (pa_cons (pv 0) (pa_cons (pe_bltn (v := .ty "bool") (by rfl) T.z_bool (by decide +kernel) rfl) pa_nil)))) (pe_one (pe_chain op_le op_le (pv 1) (pv 0) (pv 2))))))), ?_⟩
  rcases h with ⟨i, rfl, q⟩ | ⟨⟨T, ty, hk⟩, q⟩
  · walk_at "rds"
    walk_at "isi"
    walk_at "rds"
    walk_at "isi"
    walk_at "rds"
    refine ite2 (fun e => ?_) (fun e => ?_)
    · have e := of_decide_eq_true e
      walk_at "rds"
      have e2 : decide (lo ≤ i ∧ i ≤ hi) = decide (i ≤ hi) := by simp [e]
      rw [e2] at q
      exact q
    · have e : ¬ lo ≤ i := fun z => e (decide_eq_true z)
      have e2 : decide (lo ≤ i ∧ i ≤ hi) = false := by simp [e]
      rw [e2] at q
      exact q
  · walk_at "rds"
    rcases hk with hk | ⟨hk, hb⟩
    · refine ⟨_, .ty _, _, _, false, rfl, .ty _, ty, kit_ty hk, ?_⟩
      walk_at "rds"
      exact q
    · refine ⟨_, .ty _, _, _, true, rfl, .ty _, ty, kit_ty hk, ?_⟩
      walk_at "rds"
      refine ⟨_, .ty _, _, _, true, rfl, .ty _, ty, kit_ty hb, ?_⟩
      walk_at "rds"
      exact q
end
def NoStr (K : PySem.W.Frag) (H : Hp) (v : V) : Prop := ∃ T, TyX K H v (.type T) ∧ kitB T "str" = some false
def spPrint (K : PySem.W.Frag) : Sp := fun vs H Q _ => ∃ (v : V), vs = [v] ∧ ((∃ z : Str, v = .str z ∧ z.length ≤ 16000000 ∧ ∀ H', Same H H' → Q (.bl (isPr z)) H') ∨ (NoStr K H v ∧ Q (.bl false) H))
theorem print128 : ∀ c : Nat, c < 128 → (Unicode.isPrintable c = true ↔ (32 ≤ c ∧ c ≤ 126)) := by
  intro c hc
  have h : ∀ c : Fin 128, (Unicode.isPrintable c.val = true ↔ (32 ≤ c.val ∧ c.val ≤ 126)) := by decide +kernel
  exact h ⟨c, hc⟩
theorem asc_list {z : Str} : Txt.isascii z = true ↔ ∀ c ∈ z.cps.toList, c < 128 := by
  unfold Txt.isascii
  rw [← Array.all_toList, List.all_eq_true]
  simp
theorem pri_list {z : Str} : Txt.isprintable z = true ↔ ∀ c ∈ z.cps.toList, Unicode.isPrintable c = true := by
  unfold Txt.isprintable
  rw [← Array.all_toList, List.all_eq_true]
theorem isPr_iff {z : Str} : isPr z = true ↔ ∀ c ∈ z.cps.toList, 32 ≤ c ∧ c ≤ 126 ∧ c ≠ 37 := by
  unfold isPr
  rw [List.all_eq_true]
  simp [prC, and_assoc]
theorem out37_len {l : List Nat} : (out37 l).length = l.length ↔ ∀ c ∈ l, c ≠ 37 := by
  unfold out37
  rw [List.length_filter_eq_length_iff]
  simp
section
variable {P : Program} {w : World} {K : PySem.W.Frag} {mg : Str → Option Value} {base : Heap}
theorem c_is_printable {C_BadBlock : Addr} {C_LedgerError : Addr} {C_GENESIS : Addr} {C_GENESIS_3 : Addr} (T : Txt K mg C_BadBlock C_LedgerError C_GENESIS C_GENESIS_3) : Cal P w K mg base 1 "is_printable" (spPrint K) [] := by
  refine cal T.d_is_printable sc_is_printable (fun vs H Q E h => ?_) (fun f cdv A outer s H vs Q E hr h => ?_)
  · obtain ⟨v, rfl, _⟩ := h; rfl
  obtain ⟨v, rfl, h⟩ := h
  refine ⟨_, (pss_cons (ps_if (PW.pt (pw_or (pt_not (pt_val (pe_callB (kisi (K := K)) (by rfl) T.z_isinstance (by decide +kernel) (pa_cons (pv 0) (pa_cons (pe_bltn (v := .ty "str") (by rfl) T.z_str (by decide +kernel) rfl) pa_nil))))) (pw_or (pt_not (pt_val (pe_bm0 PySem.F.plainAttrs_str PySem.F.slot_str_isascii PySem.F.type_str_isascii mt_isascii (pv 0)))) (pw_or1 (pt_not (pt_val (pe_bm0 PySem.F.plainAttrs_str PySem.F.slot_str_isprintable PySem.F.type_str_isprintable mt_isprintable (pv 0)))))))) (pss_one (ps_ret pe_bl)) pss_nil)
      (pss_one (ps_ret (pe_cmpR op_eq (pe_callB call_len_str (by rfl) T.z_len (by decide +kernel) (pa_cons (pe_bm PySem.F.plainAttrs_str PySem.F.slot_str_translate PySem.F.type_str_translate (mt_tr37 rfl) (pv 0) (pa_cons (pe_disp (pps_cons pe_int pe_non pps_nil) rfl rfl (by intro z; cases z) (by decide)) pa_nil)) pa_nil)) (pe_callB call_len_str (by rfl) T.z_len (by decide +kernel) (pa_cons (pv 0) pa_nil)) (nomark _))))), ?_⟩
  rcases h with ⟨z, rfl, hz, q⟩ | ⟨⟨T, ty, hk⟩, q⟩
  · walk_at "rds"
    walk_at "isi"
    walk_at "rds"
    refine ⟨rfl, _, rfl, rfl, trivial, ?_⟩
    walk_at "rds"
    cases ha : Txt.isascii z with
    | false =>
      have e : isPr z = false := by
        cases e : isPr z with
        | false => rfl
        | true =>
          have := asc_list.mpr (fun c hc => by have := isPr_iff.mp e c hc; omega)
          rw [ha] at this; cases this
      rw [e] at q
      walk_at "rds"
      exact q H (Same.refl H)
    | true =>
      have ha := asc_list.mp ha
      walk_at "rds"
      refine ⟨rfl, _, rfl, rfl, trivial, ?_⟩
      walk_at "rds"
      cases hp : Txt.isprintable z with
      | false =>
        have e : isPr z = false := by
          cases e : isPr z with
          | false => rfl
          | true =>
            have := pri_list.mpr (fun c hc => by have := isPr_iff.mp e c hc; exact (print128 c (by omega)).mpr ⟨by omega, by omega⟩)
            rw [hp] at this; cases this
        rw [e] at q
        walk_at "rds"
        exact q H (Same.refl H)
      | true =>
        have hp := pri_list.mp hp
        walk_at "rds"
        refine ⟨rfl, fun p np => ?_⟩
        refine ⟨upd_same, [(Sum.inl 37, .non)], rfl, by decide, ?_⟩
        refine ⟨z, p, rfl, rfl, upd_same, ha, hz, ?_⟩
        have l37 : (SX.S (out37 z.cps.toList)).length ≤ 16000000 := by
          rw [SX.S_len]
          exact Nat.le_trans (List.length_filter_le _ _) (by rw [len_tl]; exact hz)
        walk_at "rds"
        have e : decide (V.int ((SX.S (out37 z.cps.toList)).length : Int) = V.int (z.length : Int)) = isPr z := by
          rw [SX.S_len]
          have hl := @out37_len z.cps.toList
          rw [len_tl] at hl
          cases e : isPr z with
          | true =>
            refine decide_eq_true ?_
            rw [hl.mpr (fun c hc => (isPr_iff.mp e c hc).2.2)]
          | false =>
            refine decide_eq_false fun z' => ?_
            have h1 := hl.mp (Int.ofNat.inj (V.int.inj z'))
            have : isPr z = true := isPr_iff.mpr (fun c hc => ⟨((print128 c (ha c hc)).mp (hp c hc)).1, ((print128 c (ha c hc)).mp (hp c hc)).2, h1 c hc⟩)
            rw [e] at this; cases this
        rw [← e] at q
        exact q _ (same_mut (same_upd np) np)
  · walk_at "rds"
    refine ⟨_, .ty _, _, _, false, rfl, .ty _, ty, kit_ty hk, ?_⟩
    walk_at "rds"
    exact q
end


/-! ### values as data: what stands at them does not change -/
def TupAt (K : PySem.W.Frag) (H : Hp) (a : Addr) (xs : List V) : Prop := H a = some (.tup xs) ∨ KTup K a xs
section
variable {K : PySem.W.Frag}
theorem TupAt.sq {H : Hp} {a : Addr} {xs : List V} (h : TupAt K H a xs) : SqT K H a xs := h.elim SqT.of .inr
theorem TupAt.ty {H : Hp} {a : Addr} {xs : List V} (h : TupAt K H a xs) : TyX K H (.ref a) (.type "tuple") := h.elim (fun h => .base (.tup h)) (fun ⟨_, _, _, h1, h2, _⟩ => .kTuple h1 h2)
theorem TupAt.same {H H' : Hp} {a : Addr} {xs : List V} (h : TupAt K H a xs) (s : Same H H') : TupAt K H' a xs := h.imp (s _ _) id
/-- none of those at A (none: no matter) -/
def NeA (A : Option Addr) (a : Addr) : Prop := match A with | some b => a ≠ b | none => True
mutual
/-- v is the data d; the lists in it are none of those at A -/
inductive Dt (K : PySem.W.Frag) (H : Hp) (A : Option Addr) : V → PyData → Prop
  | non : Dt K H A .non .none
  | bl (b : Bool) : Dt K H A (.bl b) (.bool b)
  | int (i : Int) : Dt K H A (.int i) (.int i)
  | str (z : Str) (h : z.length ≤ 1000000) : Dt K H A (.str z) (.str z)
  | lst {a : Addr} {xs : List V} {ds : List PyData} : NeA A a → H a = some (.lst xs) → DtAll K H A xs ds → Dt K H A (.ref a) (.list ds)
  | tup {a : Addr} {xs : List V} {ds : List PyData} : TupAt K H a xs → DtAll K H A xs ds → Dt K H A (.ref a) (.tuple ds)
inductive DtAll (K : PySem.W.Frag) (H : Hp) (A : Option Addr) : List V → List PyData → Prop
  | nil : DtAll K H A [] []
  | cons {v : V} {vs : List V} {d : PyData} {ds : List PyData} : Dt K H A v d → DtAll K H A vs ds → DtAll K H A (v :: vs) (d :: ds)
end
theorem DtAll.length {H : Hp} {A : Option Addr} : ∀ {xs : List V} {ds : List PyData}, DtAll K H A xs ds → xs.length = ds.length
  | _, _, .nil => rfl
  | _, _, .cons _ r => by rw [List.length_cons, List.length_cons, r.length]
theorem DtAll.get {H : Hp} {A : Option Addr} : ∀ {xs : List V} {ds : List PyData} {i : Nat} {x : V}, DtAll K H A xs ds → xs[i]? = some x → ∃ d, ds[i]? = some d ∧ Dt K H A x d
  | _, _, _, _, .nil, e => by simp at e
  | _, _, 0, x, .cons h _, e => by simp at e; subst e; exact ⟨_, rfl, h⟩
  | _, _, i + 1, x, .cons _ r, e => by
    obtain ⟨d, h1, h2⟩ := r.get (i := i) (x := x) (by simpa using e)
    exact ⟨d, by simpa using h1, h2⟩
theorem DtAll.getD {H : Hp} {A : Option Addr} {xs : List V} {ds : List PyData} {i : Nat} {d : PyData} (h : DtAll K H A xs ds) (e : ds[i]? = some d) : ∃ x, xs[i]? = some x ∧ Dt K H A x d := by
  have hi : i < ds.length := (List.getElem?_eq_some_iff.mp e).1
  have hi' : i < xs.length := by rw [h.length]; exact hi
  obtain ⟨d', h1, h2⟩ := h.get (List.getElem?_eq_getElem hi')
  rw [e] at h1
  cases h1
  exact ⟨_, List.getElem?_eq_getElem hi', h2⟩
mutual
theorem Dt.mod {H H' : Hp} {A D : Addr} (s : Mod A H H') (dr : Dr H D A) : ∀ (d : PyData) (v : V), Dt K H (some A) v d → Dt K H' (some A) v d
  | .none, _, h => by cases h; exact .non
  | .bool b, _, h => by cases h; exact .bl b
  | .int i, _, h => by cases h; exact .int i
  | .str z, _, h => by cases h with | str _ hz => exact .str z hz
  | .list ds, _, h => by cases h with | lst hn ha hd => exact .lst hn (s _ _ hn ha) (DtAll.mod s dr ds _ hd)
  | .tuple ds, _, h => by
    cases h with
    | tup ha hd =>
      obtain ⟨_, _, _, _, e, _⟩ := id dr
      exact .tup (ha.imp (fun ha => s _ _ (ne_of ha e (by intro z; cases z)) ha) id) (DtAll.mod s dr ds _ hd)
  | .dict _, _, h => by cases h
theorem DtAll.mod {H H' : Hp} {A D : Addr} (s : Mod A H H') (dr : Dr H D A) : ∀ (ds : List PyData) (xs : List V), DtAll K H (some A) xs ds → DtAll K H' (some A) xs ds
  | [], _, h => by cases h; exact .nil
  | d :: ds, _, h => by cases h with | cons h1 h2 => exact .cons (Dt.mod s dr d _ h1) (DtAll.mod s dr ds _ h2)
end
mutual
theorem Dt.same {H H' : Hp} {A : Option Addr} (s : Same H H') : ∀ (d : PyData) (v : V), Dt K H A v d → Dt K H' A v d
  | .none, _, h => by cases h; exact .non
  | .bool b, _, h => by cases h; exact .bl b
  | .int i, _, h => by cases h; exact .int i
  | .str z, _, h => by cases h with | str _ hz => exact .str z hz
  | .list ds, _, h => by cases h with | lst hn ha hd => exact .lst hn (s _ _ ha) (DtAll.same s ds _ hd)
  | .tuple ds, _, h => by cases h with | tup ha hd => exact .tup (ha.same s) (DtAll.same s ds _ hd)
  | .dict _, _, h => by cases h
theorem DtAll.same {H H' : Hp} {A : Option Addr} (s : Same H H') : ∀ (ds : List PyData) (xs : List V), DtAll K H A xs ds → DtAll K H' A xs ds
  | [], _, h => by cases h; exact .nil
  | d :: ds, _, h => by cases h with | cons h1 h2 => exact .cons (Dt.same s d _ h1) (DtAll.same s ds _ h2)
end
mutual
/-- data for a comparison -/
theorem Dt.dp {H : Hp} {A : Option Addr} : ∀ (d : PyData) (v : V), Dt K H A v d → Dp K H v d
  | .none, _, h => by cases h; exact .non
  | .bool b, _, h => by cases h; exact .bl b
  | .int i, _, h => by cases h; exact .int i
  | .str z, _, h => by cases h; exact .str z
  | .list ds, _, h => by cases h with | lst hn ha hd => exact .lst (SqL.of ha) (DtAll.dp ds _ hd)
  | .tuple ds, _, h => by cases h with | tup ha hd => exact .tup ha.sq (DtAll.dp ds _ hd)
  | .dict _, _, h => by cases h
theorem DtAll.dp {H : Hp} {A : Option Addr} : ∀ (ds : List PyData) (xs : List V), DtAll K H A xs ds → DpAll K H xs ds
  | [], _, h => by cases h; exact .nil
  | d :: ds, _, h => by cases h with | cons h1 h2 => exact .cons (Dt.dp d _ h1) (DtAll.dp ds _ h2)
end
theorem Dt.on {H H' : Hp} {A : Option Addr} {v : V} {d : PyData} (h : Dt K H A v d) (s : Same H H') : Dt K H' A v d := Dt.same s d v h
theorem DtAll.on {H H' : Hp} {A : Option Addr} {xs : List V} {ds : List PyData} (h : DtAll K H A xs ds) (s : Same H H') : DtAll K H' A xs ds := DtAll.same s ds xs h
theorem Dt.by {H H' : Hp} {A D : Addr} {v : V} {d : PyData} (h : Dt K H (some A) v d) (s : Mod A H H') (dr : Dr H D A) : Dt K H' (some A) v d := Dt.mod s dr d v h
theorem DtAll.by {H H' : Hp} {A D : Addr} {xs : List V} {ds : List PyData} (h : DtAll K H (some A) xs ds) (s : Mod A H H') (dr : Dr H D A) : DtAll K H' (some A) xs ds := DtAll.mod s dr ds xs h
theorem Dt.two {H : Hp} {A : Option Addr} {v : V} {d : PyData} (h : Dt K H A v d) : (∃ a xs ds, v = .ref a ∧ d = .tuple ds ∧ TupAt K H a xs ∧ DtAll K H A xs ds) ∨ (∃ T, TyX K H v (.type T) ∧ kitB T "tuple" = some false ∧ ∀ ds, d ≠ .tuple ds) := by
  cases h with
  | tup ha hx => exact .inl ⟨_, _, _, rfl, rfl, ha, hx⟩
  | str z hz => exact .inr ⟨_, .base (.str z), by decide +kernel, fun _ z => nomatch z⟩
  | int i => exact .inr ⟨_, .base (.int i), by decide +kernel, fun _ z => nomatch z⟩
  | non => exact .inr ⟨_, .base .non, by decide +kernel, fun _ z => nomatch z⟩
  | bl b => exact .inr ⟨_, .base (.bl b), by decide +kernel, fun _ z => nomatch z⟩
  | lst _ ha _ => exact .inr ⟨_, .base (.lst ha), by decide +kernel, fun _ z => nomatch z⟩
/-- the kind of a value -/
def dTy : PyData → String
  | .none => "NoneType" | .bool _ => "bool" | .int _ => "int" | .str _ => "str" | .list _ => "list" | .tuple _ => "tuple" | .dict _ => "dict"
theorem Dt.ty {H : Hp} {A : Option Addr} {v : V} {d : PyData} (h : Dt K H A v d) : TyX K H v (.type (dTy d)) := by
  cases h with
  | non => exact .base .non
  | bl b => exact .base (.bl b)
  | int i => exact .base (.int i)
  | str z _ => exact .base (.str z)
  | lst _ ha _ => exact .base (.lst ha)
  | tup ha _ => exact ha.ty
/-! the predicates of the program, upon data -/
def dInt (lo hi : Int) : PyData → Bool
  | .int i => decide (lo ≤ i ∧ i ≤ hi)
  | _ => false
def dShort (m : Int) : PyData → Bool
  | .str z => isPr z && decide ((z.length : Int) ≤ m)
  | _ => false
def dCmd : PyData → Bool
  | .tuple [c, n, t] => dInt (-100) (-1) c && dInt 1 1000000000000 n && dShort 240 t
  | _ => false
def dClient : PyData → Int
  | .tuple (.int c :: _) => c
  | _ => 0
def dAfter : Option Int → PyData → Bool
  | some k, d => decide (k < dClient d)
  | none, _ => true
def befV : Option Int → V
  | some k => .int k
  | none => .non
def dCmdsFrom : Option Int → List PyData → Bool
  | _, [] => true
  | b, d :: r => dCmd d && dAfter b d && dCmdsFrom (some (dClient d)) r
theorem dCmdsFrom_cons (b : Option Int) (d : PyData) (r : List PyData) : dCmdsFrom b (d :: r) = (dCmd d && dAfter b d && dCmdsFrom (some (dClient d)) r) := by cases b <;> rfl
theorem dCmdsFrom_nil (b : Option Int) : dCmdsFrom b [] = true := by cases b <;> rfl
def dCmds : PyData → Bool
  | .tuple ds => dCmdsFrom none ds
  | _ => false
def dHeight (parent : Int) (h : PyData) : Bool := if parent = 0 then dInt 1 1 h else dInt 2 (parent + 1) h
def dBlock4 (e p h cs : PyData) : Bool := match e, p with
  | .int e, .int p => dInt 1 1000000000000 (.int e) && dInt 0 (e - 1) (.int p) && dHeight p h && dCmds cs
  | _, _ => false
def dBlock : PyData → Bool
  | .tuple [e, p, h, cs] => dBlock4 e p h cs
  | _ => false
def dEmpty : PyData → Bool
  | .tuple [] => true
  | _ => false
def dGen : PyData → Bool
  | .tuple [e, p, h, cs] => dInt 0 0 e && dInt 0 0 p && dInt 0 0 h && dEmpty cs
  | _ => false
theorem DtAll.four {H : Hp} {A : Option Addr} {xs : List V} {ds : List PyData} (h : DtAll K H A xs ds) (hl : xs.length = 4) :
    ∃ x1 x2 x3 x4 d1 d2 d3 d4, xs = [x1, x2, x3, x4] ∧ ds = [d1, d2, d3, d4] ∧ Dt K H A x1 d1 ∧ Dt K H A x2 d2 ∧ Dt K H A x3 d3 ∧ Dt K H A x4 d4 := by
  match xs, ds, h with
  | [_, _, _, _], _, .cons h1 (.cons h2 (.cons h3 (.cons h4 .nil))) => exact ⟨_, _, _, _, _, _, _, _, rfl, rfl, h1, h2, h3, h4⟩
theorem dBlock4_e1 {e p h cs : PyData} (z : dInt 1 1000000000000 e = false) : dBlock4 e p h cs = false := by
  unfold dBlock4
  split
  · rw [z]; rfl
  · rfl
theorem dBlock4_e2 {e : Int} {p h cs : PyData} (z : dInt 0 (e - 1) p = false) : dBlock4 (.int e) p h cs = false := by
  unfold dBlock4
  split
  · rename_i h1
    cases h1
    rw [z, Bool.and_false]; rfl
  · rfl
/-- a predicate of one value, kept by growing heaps -/
def spPred (K : PySem.W.Frag) (A : Option Addr) (f : PyData → Bool) : Sp := fun vs H Q _ => ∃ (v : V) (d : PyData), vs = [v] ∧ Dt K H A v d ∧ ∀ H', Same H H' → Q (.bl (f d)) H'
def spIntD (K : PySem.W.Frag) (A : Option Addr) : Sp := fun vs H Q _ => ∃ (v : V) (d : PyData) (lo hi : Int), vs = [v, .int lo, .int hi] ∧ Dt K H A v d ∧ Q (.bl (dInt lo hi d)) H
def spShortD (K : PySem.W.Frag) (A : Option Addr) : Sp := fun vs H Q _ => ∃ (v : V) (d : PyData) (m : Int), vs = [v, .int m] ∧ Dt K H A v d ∧ ∀ H', Same H H' → Q (.bl (dShort m d)) H'
theorem dInt_inv {lo hi : Int} {d : PyData} (h : dInt lo hi d = true) : ∃ i, d = .int i ∧ lo ≤ i ∧ i ≤ hi := by
  cases d with
  | int i =>
    have h : decide (lo ≤ i ∧ i ≤ hi) = true := h
    exact ⟨i, rfl, (of_decide_eq_true h).1, (of_decide_eq_true h).2⟩
  | none => cases h
  | bool b => cases h
  | str z => cases h
  | list ds => cases h
  | tuple ds => cases h
  | dict k => cases h
theorem dShort_inv {m : Int} {d : PyData} (h : dShort m d = true) : ∃ z : Str, d = .str z ∧ isPr z = true ∧ (z.length : Int) ≤ m := by
  cases d with
  | str z =>
    have h : (isPr z && decide ((z.length : Int) ≤ m)) = true := h
    obtain ⟨h1, h2⟩ := Bool.and_eq_true_iff.mp h
    exact ⟨z, rfl, h1, of_decide_eq_true h2⟩
  | none => cases h
  | bool b => cases h
  | int i => cases h
  | list ds => cases h
  | tuple ds => cases h
  | dict k => cases h
theorem dCmd_inv {d : PyData} (h : dCmd d = true) : ∃ (c n : Int) (t : Str), d = .tuple [.int c, .int n, .str t] ∧ -100 ≤ c ∧ c ≤ -1 ∧ 1 ≤ n ∧ n ≤ 1000000000000 ∧ isPr t = true ∧ (t.length : Int) ≤ 240 := by
  unfold dCmd at h
  split at h
  · rename_i c n t
    rw [Bool.and_eq_true, Bool.and_eq_true] at h
    obtain ⟨⟨h1, h2⟩, h3⟩ := h
    obtain ⟨c, rfl, c0, c1⟩ := dInt_inv h1
    obtain ⟨n, rfl, n0, n1⟩ := dInt_inv h2
    obtain ⟨t, rfl, t0, t1⟩ := dShort_inv h3
    exact ⟨c, n, t, rfl, c0, c1, n0, n1, t0, t1⟩
  · cases h
/-- what a tuple of three ints, ints, texts stands for -/
theorem Dt.three {H : Hp} {A : Option Addr} {v : V} {d1 d2 d3 : PyData} (h : Dt K H A v (.tuple [d1, d2, d3])) : ∃ a x1 x2 x3, v = .ref a ∧ TupAt K H a [x1, x2, x3] ∧ Dt K H A x1 d1 ∧ Dt K H A x2 d2 ∧ Dt K H A x3 d3 := by
  cases h with
  | tup ha hd =>
    cases hd with
    | cons h1 hd =>
      cases hd with
      | cons h2 hd =>
        cases hd with
        | cons h3 hd =>
          cases hd
          exact ⟨_, _, _, _, rfl, ha, h1, h2, h3⟩
mutual
theorem Dt.any {H : Hp} {A : Option Addr} : ∀ (d : PyData) (v : V), Dt K H A v d → Dt K H none v d
  | .none, _, h => by cases h; exact .non
  | .bool b, _, h => by cases h; exact .bl b
  | .int i, _, h => by cases h; exact .int i
  | .str z, _, h => by cases h with | str _ hz => exact .str z hz
  | .list ds, _, h => by cases h with | lst hn ha hd => exact .lst trivial ha (DtAll.any ds _ hd)
  | .tuple ds, _, h => by cases h with | tup ha hd => exact .tup ha (DtAll.any ds _ hd)
  | .dict _, _, h => by cases h
theorem DtAll.any {H : Hp} {A : Option Addr} : ∀ (ds : List PyData) (xs : List V), DtAll K H A xs ds → DtAll K H none xs ds
  | [], _, h => by cases h; exact .nil
  | d :: ds, _, h => by cases h with | cons h1 h2 => exact .cons (Dt.any d _ h1) (DtAll.any ds _ h2)
end
theorem Dt.an {H : Hp} {A : Option Addr} {v : V} {d : PyData} (h : Dt K H A v d) : Dt K H none v d := Dt.any d v h
/-! data without lists -/
mutual
def noL : PyData → Bool
  | .list _ => false
  | .tuple ds => noLs ds
  | _ => true
def noLs : List PyData → Bool
  | [] => true
  | d :: r => noL d && noLs r
end
/-- tracked tuples stay -/
def Tp (H H' : Hp) : Prop := ∀ a xs, H a = some (.tup xs) → H' a = some (.tup xs)
mutual
theorem Dt.keep {H H' : Hp} {A B : Option Addr} (t : Tp H H') : ∀ (d : PyData) (v : V), noL d = true → Dt K H A v d → Dt K H' B v d
  | .none, _, _, h => by cases h; exact .non
  | .bool b, _, _, h => by cases h; exact .bl b
  | .int i, _, _, h => by cases h; exact .int i
  | .str z, _, _, h => by cases h with | str _ hz => exact .str z hz
  | .list ds, _, n, _ => by cases n
  | .tuple ds, _, n, h => by cases h with | tup ha hd => exact .tup (ha.imp (t _ _) id) (DtAll.keep t ds _ n hd)
  | .dict _, _, _, h => by cases h
theorem DtAll.keep {H H' : Hp} {A B : Option Addr} (t : Tp H H') : ∀ (ds : List PyData) (xs : List V), noLs ds = true → DtAll K H A xs ds → DtAll K H' B xs ds
  | [], _, _, h => by cases h; exact .nil
  | d :: ds, _, n, h => by
    have n : (noL d && noLs ds) = true := n
    rw [Bool.and_eq_true] at n
    cases h with | cons h1 h2 => exact .cons (Dt.keep t d _ n.1 h1) (DtAll.keep t ds _ n.2 h2)
end
theorem DtAll.snoc {H : Hp} {A : Option Addr} : ∀ {xs : List V} {ds : List PyData} {x : V} {d : PyData}, DtAll K H A xs ds → Dt K H A x d → DtAll K H A (xs ++ [x]) (ds ++ [d])
  | _, _, _, _, .nil, h => .cons h .nil
  | _, _, _, _, .cons h r, h2 => .cons h (r.snoc h2)
theorem TupAt.tp {H H' : Hp} {a : Addr} {xs : List V} (h : TupAt K H a xs) (t : Tp H H') : TupAt K H' a xs := h.imp (t _ _) id
theorem Same.tp {H H' : Hp} (s : Same H H') : Tp H H' := fun _ _ h => s _ _ h
theorem Mod.tp {H H' : Hp} {A D : Addr} (s : Mod A H H') (dr : Dr H D A) : Tp H H' := fun a xs h => by
  obtain ⟨_, _, _, _, e, _⟩ := id dr
  exact s _ _ (ne_of h e (by intro z; cases z)) h
theorem tp_put {H : Hp} {l : Addr} {xs ys : List V} (h : H l = some (.lst xs)) : Tp H (upd H l (.lst ys)) := fun a zs e => by
  rw [upd_ne (ne_of e h (by intro z; cases z))]; exact e
theorem dCmd_noL {d : PyData} (h : dCmd d = true) : noL d = true := by
  obtain ⟨c, n, t, rfl, _⟩ := dCmd_inv h
  rfl
theorem dCmdsFrom_noL : ∀ {ds : List PyData} {b : Option Int}, dCmdsFrom b ds = true → noLs ds = true
  | [], _, _ => rfl
  | d :: r, b, h => by
    rw [dCmdsFrom_cons, Bool.and_eq_true, Bool.and_eq_true] at h
    show (noL d && noLs r) = true
    rw [dCmd_noL h.1.1, dCmdsFrom_noL h.2]; rfl
theorem dCmdsFrom_all : ∀ {ds : List PyData} {b : Option Int}, dCmdsFrom b ds = true → ∀ d ∈ ds, dCmd d = true
  | [], _, _, _, m => nomatch m
  | d :: r, b, h, e, m => by
    rw [dCmdsFrom_cons, Bool.and_eq_true, Bool.and_eq_true] at h
    rcases List.mem_cons.mp m with rfl | m
    · exact h.1.1
    · exact dCmdsFrom_all h.2 e m
def lastC : Option Int → List PyData → Option Int
  | b, [] => b
  | _, d :: r => lastC (some (dClient d)) r
theorem lastC_snoc : ∀ (ds : List PyData) (b : Option Int) (d : PyData), lastC b (ds ++ [d]) = some (dClient d)
  | [], _, _ => rfl
  | _ :: r, _, d => lastC_snoc r _ d
theorem dCmdsFrom_snoc : ∀ (ds : List PyData) (b : Option Int) (d : PyData), dCmdsFrom b (ds ++ [d]) = (dCmdsFrom b ds && (dCmd d && dAfter (lastC b ds) d))
  | [], b, d => by
    show dCmdsFrom b [d] = _
    rw [dCmdsFrom_cons, dCmdsFrom_nil, dCmdsFrom_nil, Bool.and_true, Bool.true_and]; rfl
  | e :: r, b, d => by
    show dCmdsFrom b (e :: (r ++ [d])) = _
    rw [dCmdsFrom_cons, dCmdsFrom_snoc r, dCmdsFrom_cons, Bool.and_assoc, Bool.and_assoc, Bool.and_assoc]; rfl
end
theorem noLs_all : ∀ {ds : List PyData}, (∀ d ∈ ds, noL d = true) → noLs ds = true
  | [], _ => rfl
  | d :: r, h => by
    show (noL d && noLs r) = true
    rw [h d List.mem_cons_self, noLs_all (fun e he => h e (List.mem_cons_of_mem _ he))]; rfl

/-! ### is_short, is_client, is_number, is_command, is_command_list -/
section
variable {P : Program} {w : World} {K : PySem.W.Frag} {mg : Str → Option Value} {base : Heap}
theorem c_is_integerD {C_BadBlock : Addr} {C_LedgerError : Addr} {C_GENESIS : Addr} {C_GENESIS_3 : Addr} (T : Txt K mg C_BadBlock C_LedgerError C_GENESIS C_GENESIS_3) (A : Option Addr) : Cal P w K mg base 1 "is_integer" (spIntD K A) [] := by
  obtain ⟨f, fd, ps, ds, F, r⟩ := (c_is_integer (P := P) (w := w) (base := base) T).ex
  refine ⟨f, fd, ps, ds, F.imp fun vs H Q E h => ?_, r⟩
  obtain ⟨v, d, lo, hi, rfl, hd, q⟩ := h
  refine ⟨v, lo, hi, rfl, ?_⟩
  cases hd with
  | int i => exact .inl ⟨i, rfl, q⟩
  | non => exact .inr ⟨⟨_, .base .non, .inl (by decide +kernel)⟩, q⟩
  | bl b => exact .inr ⟨⟨_, .base (.bl b), .inr ⟨by decide +kernel, by decide +kernel⟩⟩, q⟩
  | str z _ => exact .inr ⟨⟨_, .base (.str z), .inl (by decide +kernel)⟩, q⟩
  | lst _ ha _ => exact .inr ⟨⟨_, .base (.lst ha), .inl (by decide +kernel)⟩, q⟩
  | tup ha _ => exact .inr ⟨⟨_, ha.ty, .inl (by decide +kernel)⟩, q⟩
theorem c_is_short {C_BadBlock : Addr} {C_LedgerError : Addr} {C_GENESIS : Addr} {C_GENESIS_3 : Addr} (T : Txt K mg C_BadBlock C_LedgerError C_GENESIS C_GENESIS_3) (A : Option Addr) : Cal P w K mg base 2 "is_short" (spShortD K A) [] := by
  have c_is_printable := c_is_printable (P := P) (w := w) (base := base) T
  refine cal T.d_is_short sc_is_short (fun vs H Q E h => ?_) (fun f cdv A' outer s H vs Q E hr h => ?_)
  · obtain ⟨v, d, m, rfl, _⟩ := h; rfl
  obtain ⟨v, d, m, rfl, hd, q⟩ := h
  refine ⟨_, (pss_one (ps_ret (pe_and (pe_c c_is_printable hr (by decide) (by rfl) (pa_cons (pv 0) pa_nil)) (pe_one (pe_cmpR op_le (pe_callB call_len_str (by rfl) T.z_len (by decide +kernel) (pa_cons (pv 0) pa_nil)) (pv 1) (nomark _)))))), ?_⟩
  have two : (∃ z : Str, d = .str z ∧ v = .str z ∧ z.length ≤ 1000000) ∨ (NoStr K H v ∧ dShort m d = false) := by
    cases hd with
    | str z hz => exact .inl ⟨z, rfl, rfl, hz⟩
    | int i => exact .inr ⟨⟨_, .base (.int i), by decide +kernel⟩, rfl⟩
    | non => exact .inr ⟨⟨_, .base .non, by decide +kernel⟩, rfl⟩
    | bl b => exact .inr ⟨⟨_, .base (.bl b), by decide +kernel⟩, rfl⟩
    | lst _ ha _ => exact .inr ⟨⟨_, .base (.lst ha), by decide +kernel⟩, rfl⟩
    | tup ha _ => exact .inr ⟨⟨_, ha.ty, by decide +kernel⟩, rfl⟩
  rcases two with ⟨z, rfl, rfl, hz⟩ | ⟨hn, e⟩
  · refine ⟨_, rfl, .str z, rfl, .inl ⟨z, rfl, by omega, fun H' sm => ?_⟩⟩
    have q := q H' sm
    cases e : isPr z with
    | false =>
      rw [show dShort m (.str z) = false by show (isPr z && decide ((z.length : Int) ≤ m)) = false; rw [e]; rfl] at q
      refine ⟨_, rfl, ?_⟩
      exact q
    | true =>
      rw [show dShort m (.str z) = decide ((z.length : Int) ≤ m) by show (isPr z && decide ((z.length : Int) ≤ m)) = _; rw [e]; rfl] at q
      refine ⟨_, rfl, ?_⟩
      walk_at "rds"
      exact q
  · refine ⟨_, rfl, v, rfl, .inr ⟨hn, ?_⟩⟩
    rw [e] at q
    refine ⟨_, rfl, ?_⟩
    exact q H (Same.refl H)
theorem c_is_client {C_BadBlock : Addr} {C_LedgerError : Addr} {C_GENESIS : Addr} {C_GENESIS_3 : Addr} (T : Txt K mg C_BadBlock C_LedgerError C_GENESIS C_GENESIS_3) (A : Option Addr) : Cal P w K mg base 2 "is_client" (spPred K A (dInt (-100) (-1))) [] := by
  have c_is_integer := c_is_integerD (P := P) (w := w) (base := base) T A
  refine cal T.d_is_client sc_is_client (fun vs H Q E h => ?_) (fun f cdv A' outer s H vs Q E hr h => ?_)
  · obtain ⟨v, d, rfl, _⟩ := h; rfl
  obtain ⟨v, d, rfl, hd, q⟩ := h
  refine ⟨_, (pss_one (ps_ret (pe_c c_is_integer hr (by decide) (by rfl) (pa_cons (pv 0) (pa_cons (pe_un un_neg (pe_gc (by rfl) T.c_MOST_CLIENTS)) (pa_cons (pe_un un_neg pe_int) pa_nil)))))), ?_⟩
  walk_at "rds"
  exact ⟨v, d, _, _, rfl, hd, q H (Same.refl H)⟩
theorem c_is_number {C_BadBlock : Addr} {C_LedgerError : Addr} {C_GENESIS : Addr} {C_GENESIS_3 : Addr} (T : Txt K mg C_BadBlock C_LedgerError C_GENESIS C_GENESIS_3) (A : Option Addr) : Cal P w K mg base 2 "is_number" (spPred K A (dInt 1 1000000000000)) [] := by
  have c_is_integer := c_is_integerD (P := P) (w := w) (base := base) T A
  refine cal T.d_is_number sc_is_number (fun vs H Q E h => ?_) (fun f cdv A' outer s H vs Q E hr h => ?_)
  · obtain ⟨v, d, rfl, _⟩ := h; rfl
  obtain ⟨v, d, rfl, hd, q⟩ := h
  refine ⟨_, (pss_one (ps_ret (pe_c c_is_integer hr (by decide) (by rfl) (pa_cons (pv 0) (pa_cons pe_int (pa_cons (pe_gc (by rfl) T.c_MOST_NUMBER) pa_nil)))))), ?_⟩
  walk_at "rds"
  exact ⟨v, d, _, _, rfl, hd, q H (Same.refl H)⟩
theorem c_is_command {C_BadBlock : Addr} {C_LedgerError : Addr} {C_GENESIS : Addr} {C_GENESIS_3 : Addr} (T : Txt K mg C_BadBlock C_LedgerError C_GENESIS C_GENESIS_3) (A : Option Addr) : Cal P w K mg base 3 "is_command" (spPred K A dCmd) [] := by
  have c_is_short := c_is_short (P := P) (w := w) (base := base) T A
  have c_is_client := c_is_client (P := P) (w := w) (base := base) T A
  have c_is_number := c_is_number (P := P) (w := w) (base := base) T A
  refine cal T.d_is_command sc_is_command (fun vs H Q E h => ?_) (fun f cdv A' outer s H vs Q E hr h => ?_)
  · obtain ⟨v, d, rfl, _⟩ := h; rfl
  obtain ⟨v, d, rfl, hd, q⟩ := h
  refine ⟨_, (pss_cons (ps_if (PW.pt (pw_or (pt_not (pt_val (pe_callB (kisi (K := K)) (by rfl) T.z_isinstance (by decide +kernel) (pa_cons (pv 0) (pa_cons (pe_bltn (v := .ty "tuple") (by rfl) T.z_tuple (by decide +kernel) rfl) pa_nil))))) (pw_or1 (pt_cmpR op_ne (pe_callB (klen (K := K)) (by rfl) T.z_len (by decide +kernel) (pa_cons (pv 0) pa_nil)) pe_int (nomark _))))) (pss_one (ps_ret pe_bl)) pss_nil)
      (pss_cons (ps_asg (pv 0) (pg_tup (by rfl) (pgs_cons (pg_name (i := 1) sc_is_command.nd rfl (Or.inl rfl)) (pgs_cons (pg_name (i := 2) sc_is_command.nd rfl (Or.inl rfl)) (pgs_cons (pg_name (i := 3) sc_is_command.nd rfl (Or.inl rfl)) pgs_nil)))))
      (pss_one (ps_ret (pe_and (pe_c c_is_client hr (by decide) (by rfl) (pa_cons (pv 1) pa_nil)) (pe_and (pe_c c_is_number hr (by decide) (by rfl) (pa_cons (pv 2) pa_nil)) (pe_one (pe_c c_is_short hr (by decide) (by rfl) (pa_cons (pv 3) (pa_cons (pe_gc (by rfl) T.c_MOST_TEXT) pa_nil)))))))))), ?_⟩
  walk_at "rds"
  have two : (∃ a xs ds, v = .ref a ∧ d = .tuple ds ∧ TupAt K H a xs ∧ DtAll K H A xs ds) ∨ (∃ T, TyX K H v (.type T) ∧ kitB T "tuple" = some false ∧ dCmd d = false) := by
    cases hd with
    | tup ha hx => exact .inl ⟨_, _, _, rfl, rfl, ha, hx⟩
    | str z hz => exact .inr ⟨_, .base (.str z), by decide +kernel, rfl⟩
    | int i => exact .inr ⟨_, .base (.int i), by decide +kernel, rfl⟩
    | non => exact .inr ⟨_, .base .non, by decide +kernel, rfl⟩
    | bl b => exact .inr ⟨_, .base (.bl b), by decide +kernel, rfl⟩
    | lst _ ha _ => exact .inr ⟨_, .base (.lst ha), by decide +kernel, rfl⟩
  rcases two with ⟨a, xs, ds, rfl, rfl, ha, hx⟩ | ⟨T, ty, hk, e⟩
  · refine ⟨_, .ty _, _, _, true, rfl, .ty _, ha.ty, kit_ty (by decide +kernel), ?_⟩
    walk_at "rds"
    refine ⟨a, xs, rfl, .inr (ha.sq), ?_⟩
    walk_at "rds"
    refine ite2 (fun e => ?_) (fun e => ?_)
    · have e2 : dCmd (.tuple ds) = false := by
        have hl := hx.length
        match ds with
        | [] => rfl
        | [_] => rfl
        | [_, _] => rfl
        | [_, _, _] =>
          exfalso
          have e : (!decide (V.int (xs.length : Int) = V.int 3)) = true := e
          rw [hl] at e
          exact absurd e (by show ¬ ((!decide (V.int 3 = V.int 3)) = true); decide)
        | _ :: _ :: _ :: _ :: _ => rfl
      rw [e2] at q
      exact q H (Same.refl H)
    · have hl : xs.length = 3 := by
        by_cases h3 : (xs.length : Int) = 3
        · omega
        · exfalso
          exact e (by show (!decide (V.int _ = V.int _)) = true; rw [decide_eq_false (fun z => h3 (V.int.inj z))]; rfl)
      cases hx with
      | nil => simp at hl
      | cons h1 hx =>
        cases hx with
        | nil => simp at hl
        | cons h2 hx =>
          cases hx with
          | nil => simp at hl
          | cons h3 hx =>
            cases hx with
            | cons _ _ => simp at hl
            | nil =>
              rename_i x1 d1 x2 d2 x3 d3
              walk_at "rds"
              refine ⟨a, _, rfl, ha.sq, rfl, _, _, rfl, _, _, rfl, _, _, rfl, rfl, ?_⟩
              walk_at "rds"
              refine ⟨_, d1, rfl, h1, fun H2 s2 => ?_⟩
              have q : ∀ H', Same H H' → Q (.bl (dInt (-100) (-1) d1 && dInt 1 1000000000000 d2 && dShort 240 d3)) H' := q
              refine ⟨_, rfl, ?_⟩
              cases e1 : dInt (-100) (-1) d1 with
              | false =>
                rw [e1] at q
                refine ifF rfl ?_
                exact q _ s2
              | true =>
                rw [e1] at q
                refine ifT rfl ?_
                walk_at "rds"
                refine ⟨_, d2, rfl, h2.on s2, fun H3 s3 => ?_⟩
                refine ⟨_, rfl, ?_⟩
                cases e2 : dInt 1 1000000000000 d2 with
                | false =>
                  rw [e2] at q
                  refine ifF rfl ?_
                  exact q _ (s2.trans s3)
                | true =>
                  rw [e2] at q
                  refine ifT rfl ?_
                  walk_at "rds"
                  refine ⟨_, d3, 240, rfl, (h3.on s2).on s3, fun H4 s4 => ?_⟩
                  exact q _ ((s2.trans s3).trans s4)
  · refine ⟨_, .ty _, _, _, false, rfl, .ty _, ty, kit_ty hk, ?_⟩
    walk_at "rds"
    rw [e] at q
    exact q H (Same.refl H)
theorem c_is_command_list {C_BadBlock : Addr} {C_LedgerError : Addr} {C_GENESIS : Addr} {C_GENESIS_3 : Addr} (T : Txt K mg C_BadBlock C_LedgerError C_GENESIS C_GENESIS_3) (A : Option Addr) : Cal P w K mg base 4 "is_command_list" (spPred K A dCmds) [] := by
  have c_is_command := c_is_command (P := P) (w := w) (base := base) T A
  refine cal T.d_is_command_list sc_is_command_list (fun vs H Q E h => ?_) (fun f cdv A' outer s H vs Q E hr h => ?_)
  · obtain ⟨v, d, rfl, _⟩ := h; rfl
  obtain ⟨v, d, rfl, hd, q⟩ := h
  refine ⟨_, (pss_cons (ps_if (pt_not (pt_val (pe_callB (kisi (K := K)) (by rfl) T.z_isinstance (by decide +kernel) (pa_cons (pv 0) (pa_cons (pe_bltn (v := .ty "tuple") (by rfl) T.z_tuple (by decide +kernel) rfl) pa_nil))))) (pss_one (ps_ret pe_bl)) pss_nil)
      (pss_cons (ps_set (i := 1) sc_is_command_list.nd rfl (Or.inl rfl) pe_non)
      (pss_cons (ps_for PassesOwn.never rfl (pi_tup (pv 0)) (pg_name (i := 2) sc_is_command_list.nd rfl (Or.inl rfl)) (pss_cons (ps_if (pt_not (pt_val (pe_c c_is_command hr (by decide) (by rfl) (pa_cons (pv 2) pa_nil)))) (pss_one (ps_ret pe_bl)) pss_nil)
      (pss_cons (ps_if (PW.pt (pw_and (pt_cmpR op_notN (pv 1) pe_non (nomark _)) (pw_and1 (pt_cmpR op_le (pe_ix (kixt (K := K)) (pv 2) pe_int (fun _ _ => rfl)) (pv 1) (nomark _))))) (pss_one (ps_ret pe_bl)) pss_nil)
      (pss_one (ps_set (i := 1) sc_is_command_list.nd rfl (Or.inl rfl) (pe_ix (kixt (K := K)) (pv 2) pe_int (fun _ _ => rfl)))))))
      (pss_one (ps_ret pe_bl))))), ?_⟩
  walk_at "rds"
  have two : (∃ a xs ds, v = .ref a ∧ d = .tuple ds ∧ TupAt K H a xs ∧ DtAll K H A xs ds) ∨ (∃ T, TyX K H v (.type T) ∧ kitB T "tuple" = some false ∧ dCmds d = false) := by
    cases hd with
    | tup ha hx => exact .inl ⟨_, _, _, rfl, rfl, ha, hx⟩
    | str z hz => exact .inr ⟨_, .base (.str z), by decide +kernel, rfl⟩
    | int i => exact .inr ⟨_, .base (.int i), by decide +kernel, rfl⟩
    | non => exact .inr ⟨_, .base .non, by decide +kernel, rfl⟩
    | bl b => exact .inr ⟨_, .base (.bl b), by decide +kernel, rfl⟩
    | lst _ ha _ => exact .inr ⟨_, .base (.lst ha), by decide +kernel, rfl⟩
  rcases two with ⟨a, xs, ds, rfl, rfl, ha, hx⟩ | ⟨T, ty, hk, e⟩
  · refine ⟨_, .ty _, _, _, true, rfl, .ty _, ha.ty, kit_ty (by decide +kernel), ?_⟩
    walk_at "rds"
    refine ⟨⟨xs, ha.sq⟩, ?_⟩
    refine for_it (walk_tup (K := K) (a := a) (xs := xs)) (Pv := fun i σ H' => ∃ (b : Option Int) (y : Option V), σ = [some (.ref a), some (befV b), y] ∧ Same H H' ∧ dCmdsFrom none ds = dCmdsFrom b (ds.drop i)) ⟨none, none, rfl, Same.refl H, rfl⟩ (fun i σ H' _ h => by obtain ⟨_, _, _, sm, _⟩ := h; exact (ha.same sm).sq) (fun i x σ H2 H3 hi hp hy => ?_) (fun σ H2 hp => ?_)
    · obtain ⟨b, y, rfl, sm, eq⟩ := hp
      obtain ⟨rfl, gx⟩ := hy
      obtain ⟨d, gd, hdx⟩ := hx.get gx
      have hid : i < ds.length := (List.getElem?_eq_some_iff.mp gd).1
      have edrop : ds.drop i = d :: ds.drop (i + 1) := by
        rw [List.drop_eq_getElem_cons hid]
        rw [List.getElem?_eq_getElem hid] at gd
        cases gd; rfl
      rw [edrop, dCmdsFrom_cons] at eq
      have q : ∀ H', Same H H' → Q (.bl (dCmdsFrom none ds)) H' := q
      walk_at "rds"
      refine ⟨x, d, rfl, hdx.on sm, fun H4 s4 => ?_⟩
      refine ⟨_, rfl, ?_⟩
      cases ec : dCmd d with
      | false =>
        rw [ec] at eq
        refine ifT rfl ?_
        rw [show dCmdsFrom none ds = false from eq] at q
        exact q _ (sm.trans s4)
      | true =>
        rw [ec] at eq
        refine ifF rfl ?_
        obtain ⟨c, n, t, rfl, c0, c1, n0, n1, t0, t1⟩ := dCmd_inv ec
        obtain ⟨aq, x1, x2, x3, rfl, haq, h1, h2, h3⟩ := (hdx.on (sm.trans s4)).three
        cases h1
        have eq : dCmdsFrom none ds = (dAfter b (.tuple [.int c, .int n, .str t]) && dCmdsFrom (some c) (ds.drop (i + 1))) := eq
        cases b with
        | none =>
          walk_at "rds"
          refine ⟨aq, _, 0, _, rfl, rfl, haq.sq, atI_nat rfl, ?_⟩
          exact ⟨some c, some (.ref aq), rfl, sm.trans s4, by rw [eq]; rfl⟩
        | some k =>
          walk_at "rds"
          refine ⟨aq, _, 0, _, rfl, rfl, haq.sq, atI_nat rfl, ?_⟩
          walk_at "rds"
          have eq : dCmdsFrom none ds = (decide (k < c) && dCmdsFrom (some c) (ds.drop (i + 1))) := eq
          refine ite2 (fun e => ?_) (fun e => ?_)
          · have e : decide (c ≤ k) = true := e
            rw [show dCmdsFrom none ds = false by rw [eq, decide_eq_false (by have := of_decide_eq_true e; omega)]; rfl] at q
            exact q _ (sm.trans s4)
          · have e : ¬ decide (c ≤ k) = true := e
            walk_at "rds"
            refine ⟨aq, _, 0, _, rfl, rfl, haq.sq, atI_nat rfl, ?_⟩
            exact ⟨some c, some (.ref aq), rfl, sm.trans s4, by rw [eq, decide_eq_true (by rcases Int.lt_or_le k c with h | h; exact h; exact absurd (decide_eq_true h) e)]; rfl⟩
    · obtain ⟨b, y, rfl, sm, eq⟩ := hp
      walk_at "rds"
      rw [List.drop_of_length_le (by rw [hx.length]; exact Nat.le_refl _), dCmdsFrom_nil] at eq
      have q : ∀ H', Same H H' → Q (.bl (dCmdsFrom none ds)) H' := q
      rw [show dCmdsFrom none ds = true from eq] at q
      exact q _ sm
  · refine ⟨_, .ty _, _, _, false, rfl, .ty _, ty, kit_ty hk, ?_⟩
    walk_at "rds"
    rw [e] at q
    exact q H (Same.refl H)
end

/-! ### blocks -/
def spHeight (K : PySem.W.Frag) (A : Option Addr) : Sp := fun vs H Q _ => ∃ (p : Int) (v : V) (d : PyData), vs = [.int p, v] ∧ Dt K H A v d ∧ ∀ H', Same H H' → Q (.bl (dHeight p d)) H'
section
variable {P : Program} {w : World} {K : PySem.W.Frag} {mg : Str → Option Value} {base : Heap}
theorem c_is_height_above {C_BadBlock : Addr} {C_LedgerError : Addr} {C_GENESIS : Addr} {C_GENESIS_3 : Addr} (T : Txt K mg C_BadBlock C_LedgerError C_GENESIS C_GENESIS_3) (A : Option Addr) : Cal P w K mg base 2 "is_height_above" (spHeight K A) [] := by
  have c_is_integer := c_is_integerD (P := P) (w := w) (base := base) T A
  refine cal T.d_is_height_above sc_is_height_above (fun vs H Q E h => ?_) (fun f cdv A' outer s H vs Q E hr h => ?_)
  · obtain ⟨p, v, d, rfl, _⟩ := h; rfl
  obtain ⟨p, v, d, rfl, hd, q⟩ := h
  refine ⟨_, (pss_cons (ps_if (pt_cmpR op_eq (pv 0) pe_int (nomark _)) (pss_one (ps_ret (pe_c c_is_integer hr (by decide) (by rfl) (pa_cons (pv 1) (pa_cons pe_int (pa_cons pe_int pa_nil)))))) pss_nil)
      (pss_one (ps_ret (pe_c c_is_integer hr (by decide) (by rfl) (pa_cons (pv 1) (pa_cons pe_int (pa_cons (pe_op op_add (pv 0) pe_int) pa_nil))))))), ?_⟩
  walk_at "rds"
  refine ite2 (fun e => ?_) (fun e => ?_)
  · have e : p = 0 := V.int.inj (of_decide_eq_true e)
    subst e
    walk_at "rds"
    exact ⟨v, d, _, _, rfl, hd, q H (Same.refl H)⟩
  · have e : p ≠ 0 := fun z => e (by rw [z]; rfl)
    walk_at "rds"
    refine ⟨v, d, _, _, rfl, hd, ?_⟩
    have q := q H (Same.refl H)
    unfold dHeight at q
    rw [if_neg e] at q
    exact q
theorem c_is_genesis {C_BadBlock : Addr} {C_LedgerError : Addr} {C_GENESIS : Addr} {C_GENESIS_3 : Addr} (T : Txt K mg C_BadBlock C_LedgerError C_GENESIS C_GENESIS_3) (A : Option Addr) : Cal P w K mg base 2 "is_genesis" (spPred K A dGen) [] := by
  have c_is_integer := c_is_integerD (P := P) (w := w) (base := base) T A
  refine cal T.d_is_genesis sc_is_genesis (fun vs H Q E h => ?_) (fun f cdv A' outer s H vs Q E hr h => ?_)
  · obtain ⟨v, d, rfl, _⟩ := h; rfl
  obtain ⟨v, d, rfl, hd, q⟩ := h
  refine ⟨_, (pss_cons (ps_if (PW.pt (pw_or (pt_not (pt_val (pe_callB (kisi (K := K)) (by rfl) T.z_isinstance (by decide +kernel) (pa_cons (pv 0) (pa_cons (pe_bltn (v := .ty "tuple") (by rfl) T.z_tuple (by decide +kernel) rfl) pa_nil))))) (pw_or1 (pt_cmpR op_ne (pe_callB (klen (K := K)) (by rfl) T.z_len (by decide +kernel) (pa_cons (pv 0) pa_nil)) pe_int (nomark _))))) (pss_one (ps_ret pe_bl)) pss_nil)
      (pss_cons (ps_asg (pv 0) (pg_tup (by rfl) (pgs_cons (pg_name (i := 1) sc_is_genesis.nd rfl (Or.inl rfl)) (pgs_cons (pg_name (i := 2) sc_is_genesis.nd rfl (Or.inl rfl)) (pgs_cons (pg_name (i := 3) sc_is_genesis.nd rfl (Or.inl rfl)) (pgs_cons (pg_name (i := 4) sc_is_genesis.nd rfl (Or.inl rfl)) pgs_nil))))))
      (pss_cons (ps_set (i := 5) sc_is_genesis.nd rfl (Or.inl rfl) (pe_and (pe_c c_is_integer hr (by decide) (by rfl) (pa_cons (pv 1) (pa_cons pe_int (pa_cons pe_int pa_nil)))) (pe_and (pe_c c_is_integer hr (by decide) (by rfl) (pa_cons (pv 2) (pa_cons pe_int (pa_cons pe_int pa_nil)))) (pe_one (pe_c c_is_integer hr (by decide) (by rfl) (pa_cons (pv 3) (pa_cons pe_int (pa_cons pe_int pa_nil))))))))
      (pss_one (ps_ret (pe_and (pv 5) (pe_and (pe_callB (kisi (K := K)) (by rfl) T.z_isinstance (by decide +kernel) (pa_cons (pv 4) (pa_cons (pe_bltn (v := .ty "tuple") (by rfl) T.z_tuple (by decide +kernel) rfl) pa_nil))) (pe_one (pe_cmpR op_eq (pe_callB (klen (K := K)) (by rfl) T.z_len (by decide +kernel) (pa_cons (pv 4) pa_nil)) pe_int (nomark _)))))))))), ?_⟩
  walk_at "rds"
  have two : (∃ a xs ds, v = .ref a ∧ d = .tuple ds ∧ TupAt K H a xs ∧ DtAll K H A xs ds) ∨ (∃ T, TyX K H v (.type T) ∧ kitB T "tuple" = some false ∧ dGen d = false) := by
    cases hd with
    | tup ha hx => exact .inl ⟨_, _, _, rfl, rfl, ha, hx⟩
    | str z hz => exact .inr ⟨_, .base (.str z), by decide +kernel, rfl⟩
    | int i => exact .inr ⟨_, .base (.int i), by decide +kernel, rfl⟩
    | non => exact .inr ⟨_, .base .non, by decide +kernel, rfl⟩
    | bl b => exact .inr ⟨_, .base (.bl b), by decide +kernel, rfl⟩
    | lst _ ha _ => exact .inr ⟨_, .base (.lst ha), by decide +kernel, rfl⟩
  rcases two with ⟨a, xs, ds, rfl, rfl, ha, hx⟩ | ⟨T, ty, hk, e⟩
  · refine ⟨_, .ty _, _, _, true, rfl, .ty _, ha.ty, kit_ty (by decide +kernel), ?_⟩
    walk_at "rds"
    refine ⟨a, xs, rfl, .inr (ha.sq), ?_⟩
    walk_at "rds"
    refine ite2 (fun e => ?_) (fun e => ?_)
    · have e2 : dGen (.tuple ds) = false := by
        have hl := hx.length
        match ds with
        | [] => rfl
        | [_] => rfl
        | [_, _] => rfl
        | [_, _, _] => rfl
        | [_, _, _, _] =>
          exfalso
          have e : (!decide (V.int (xs.length : Int) = V.int 4)) = true := e
          rw [hl] at e
          exact absurd e (by show ¬ ((!decide (V.int 4 = V.int 4)) = true); decide)
        | _ :: _ :: _ :: _ :: _ :: _ => rfl
      rw [e2] at q
      exact q H (Same.refl H)
    · have hl : xs.length = 4 := by
        by_cases h3 : (xs.length : Int) = 4
        · omega
        · exfalso
          exact e (by show (!decide (V.int _ = V.int _)) = true; rw [decide_eq_false (fun z => h3 (V.int.inj z))]; rfl)
      obtain ⟨x1, x2, x3, x4, d1, d2, d3, d4, rfl, rfl, h1, h2, h3, h4⟩ := hx.four hl
      have q : Q (.bl (dInt 0 0 d1 && dInt 0 0 d2 && dInt 0 0 d3 && dEmpty d4)) H := q H (Same.refl H)
      walk_at "rds"
      refine ⟨a, _, rfl, ha.sq, rfl, _, _, rfl, _, _, rfl, _, _, rfl, _, _, rfl, rfl, ?_⟩
      walk_at "rds"
      refine ⟨_, d1, _, _, rfl, h1, ?_⟩
      cases e1 : dInt 0 0 d1 with
      | false =>
        rw [e1] at q
        walk_at "rds"
        exact q
      | true =>
        rw [e1] at q
        walk_at "rds"
        refine ⟨_, d2, _, _, rfl, h2, ?_⟩
        cases e2 : dInt 0 0 d2 with
        | false =>
          rw [e2] at q
          walk_at "rds"
          exact q
        | true =>
          rw [e2] at q
          walk_at "rds"
          refine ⟨_, d3, _, _, rfl, h3, ?_⟩
          cases e3 : dInt 0 0 d3 with
          | false =>
            rw [e3] at q
            walk_at "rds"
            exact q
          | true =>
            rw [e3] at q
            walk_at "rds"
            have q : Q (.bl (dEmpty d4)) H := q
            rcases h4.two with ⟨b, ys, es, rfl, rfl, hb, hy⟩ | ⟨T4, ty4, k4, z⟩
            · refine ⟨_, .ty _, _, _, true, rfl, .ty _, hb.ty, kit_ty (by decide +kernel), ?_⟩
              walk_at "rds"
              refine ⟨b, ys, rfl, .inr hb.sq, ?_⟩
              walk_at "rds"
              have e : decide (V.int (ys.length : Int) = V.int 0) = dEmpty (.tuple es) := by
                have hl := hy.length
                match es with
                | [] => rw [hl]; rfl
                | x :: r => rw [hl]; exact decide_eq_false (fun z => by have := V.int.inj z; simp at this; omega)
              rw [← e] at q
              exact q
            · refine ⟨_, .ty _, _, _, false, rfl, .ty _, ty4, kit_ty k4, ?_⟩
              walk_at "rds"
              have e : dEmpty d4 = false := by cases d4 <;> first | rfl | exact absurd rfl (z _)
              rw [e] at q
              exact q
  · refine ⟨_, .ty _, _, _, false, rfl, .ty _, ty, kit_ty hk, ?_⟩
    walk_at "rds"
    rw [e] at q
    exact q H (Same.refl H)
theorem c_is_block {C_BadBlock : Addr} {C_LedgerError : Addr} {C_GENESIS : Addr} {C_GENESIS_3 : Addr} (T : Txt K mg C_BadBlock C_LedgerError C_GENESIS C_GENESIS_3) (A : Option Addr) : Cal P w K mg base 5 "is_block" (spPred K A dBlock) [] := by
  have c_is_integer := c_is_integerD (P := P) (w := w) (base := base) T A
  have c_is_height_above := c_is_height_above (P := P) (w := w) (base := base) T A
  have c_is_command_list := c_is_command_list (P := P) (w := w) (base := base) T A
  refine cal T.d_is_block sc_is_block (fun vs H Q E h => ?_) (fun f cdv A' outer s H vs Q E hr h => ?_)
  · obtain ⟨v, d, rfl, _⟩ := h; rfl
  obtain ⟨v, d, rfl, hd, q⟩ := h
  refine ⟨_, (pss_cons (ps_if (PW.pt (pw_or (pt_not (pt_val (pe_callB (kisi (K := K)) (by rfl) T.z_isinstance (by decide +kernel) (pa_cons (pv 0) (pa_cons (pe_bltn (v := .ty "tuple") (by rfl) T.z_tuple (by decide +kernel) rfl) pa_nil))))) (pw_or1 (pt_cmpR op_ne (pe_callB (klen (K := K)) (by rfl) T.z_len (by decide +kernel) (pa_cons (pv 0) pa_nil)) pe_int (nomark _))))) (pss_one (ps_ret pe_bl)) pss_nil)
      (pss_cons (ps_asg (pv 0) (pg_tup (by rfl) (pgs_cons (pg_name (i := 1) sc_is_block.nd rfl (Or.inl rfl)) (pgs_cons (pg_name (i := 2) sc_is_block.nd rfl (Or.inl rfl)) (pgs_cons (pg_name (i := 3) sc_is_block.nd rfl (Or.inl rfl)) (pgs_cons (pg_name (i := 4) sc_is_block.nd rfl (Or.inl rfl)) pgs_nil))))))
      (pss_cons (ps_if (PW.pt (pw_or (pt_not (pt_val (pe_c c_is_integer hr (by decide) (by rfl) (pa_cons (pv 1) (pa_cons pe_int (pa_cons (pe_gc (by rfl) T.c_MOST_NUMBER) pa_nil)))))) (pw_or1 (pt_not (pt_val (pe_c c_is_integer hr (by decide) (by rfl) (pa_cons (pv 2) (pa_cons pe_int (pa_cons (pe_op op_sub (pv 1) pe_int) pa_nil))))))))) (pss_one (ps_ret pe_bl)) pss_nil)
      (pss_one (ps_ret (pe_and (pe_c c_is_height_above hr (by decide) (by rfl) (pa_cons (pv 2) (pa_cons (pv 3) pa_nil))) (pe_one (pe_c c_is_command_list hr (by decide) (by rfl) (pa_cons (pv 4) pa_nil))))))))), ?_⟩
  walk_at "rds"
  have two : (∃ a xs ds, v = .ref a ∧ d = .tuple ds ∧ TupAt K H a xs ∧ DtAll K H A xs ds) ∨ (∃ T, TyX K H v (.type T) ∧ kitB T "tuple" = some false ∧ dBlock d = false) := by
    cases hd with
    | tup ha hx => exact .inl ⟨_, _, _, rfl, rfl, ha, hx⟩
    | str z hz => exact .inr ⟨_, .base (.str z), by decide +kernel, rfl⟩
    | int i => exact .inr ⟨_, .base (.int i), by decide +kernel, rfl⟩
    | non => exact .inr ⟨_, .base .non, by decide +kernel, rfl⟩
    | bl b => exact .inr ⟨_, .base (.bl b), by decide +kernel, rfl⟩
    | lst _ ha _ => exact .inr ⟨_, .base (.lst ha), by decide +kernel, rfl⟩
  rcases two with ⟨a, xs, ds, rfl, rfl, ha, hx⟩ | ⟨T, ty, hk, e⟩
  · refine ⟨_, .ty _, _, _, true, rfl, .ty _, ha.ty, kit_ty (by decide +kernel), ?_⟩
    walk_at "rds"
    refine ⟨a, xs, rfl, .inr (ha.sq), ?_⟩
    walk_at "rds"
    refine ite2 (fun e => ?_) (fun e => ?_)
    · have e2 : dBlock (.tuple ds) = false := by
        have hl := hx.length
        match ds with
        | [] => rfl
        | [_] => rfl
        | [_, _] => rfl
        | [_, _, _] => rfl
        | [_, _, _, _] =>
          exfalso
          have e : (!decide (V.int (xs.length : Int) = V.int 4)) = true := e
          rw [hl] at e
          exact absurd e (by show ¬ ((!decide (V.int 4 = V.int 4)) = true); decide)
        | _ :: _ :: _ :: _ :: _ :: _ => rfl
      rw [e2] at q
      exact q H (Same.refl H)
    · have hl : xs.length = 4 := by
        by_cases h3 : (xs.length : Int) = 4
        · omega
        · exfalso
          exact e (by show (!decide (V.int _ = V.int _)) = true; rw [decide_eq_false (fun z => h3 (V.int.inj z))]; rfl)
      obtain ⟨x1, x2, x3, x4, d1, d2, d3, d4, rfl, rfl, h1, h2, h3, h4⟩ := hx.four hl
      have q : ∀ H', Same H H' → Q (.bl (dBlock4 d1 d2 d3 d4)) H' := q
      walk_at "rds"
      refine ⟨a, _, rfl, ha.sq, rfl, _, _, rfl, _, _, rfl, _, _, rfl, _, _, rfl, rfl, ?_⟩
      walk_at "rds"
      refine ⟨_, d1, _, _, rfl, h1, ?_⟩
      cases e1 : dInt 1 1000000000000 d1 with
      | false =>
        rw [show dBlock4 d1 d2 d3 d4 = false from dBlock4_e1 e1] at q
        refine ⟨_, rfl, ?_⟩
        refine ifT rfl ?_
        exact q _ (Same.refl H)
      | true =>
        obtain ⟨ep, rfl, ep0, ep1⟩ := dInt_inv e1
        cases h1
        refine ⟨_, rfl, ?_⟩
        refine ifF rfl ?_
        walk_at "rds"
        refine ⟨_, d2, _, _, rfl, h2, ?_⟩
        cases e2 : dInt 0 (ep - 1) d2 with
        | false =>
          rw [show dBlock4 (.int ep) d2 d3 d4 = false from dBlock4_e2 e2] at q
          refine ⟨_, rfl, ?_⟩
          refine ifT rfl ?_
          exact q _ (Same.refl H)
        | true =>
          obtain ⟨pa, rfl, pa0, pa1⟩ := dInt_inv e2
          cases h2
          have q : ∀ H', Same H H' → Q (.bl (dHeight pa d3 && dCmds d4)) H' := by
            intro H' sm
            have q := q H' sm
            rw [show dBlock4 (.int ep) (.int pa) d3 d4 = (dHeight pa d3 && dCmds d4) by show (dInt 1 1000000000000 (.int ep) && dInt 0 (ep - 1) (.int pa) && dHeight pa d3 && dCmds d4) = _; rw [e1, e2]; rfl] at q
            exact q
          refine ⟨_, rfl, ?_⟩
          refine ifF rfl ?_
          walk_at "rds"
          refine ⟨pa, _, d3, rfl, h3, fun H2 s2 => ?_⟩
          refine ⟨_, rfl, ?_⟩
          cases e3 : dHeight pa d3 with
          | false =>
            rw [e3] at q
            refine ifF rfl ?_
            exact q _ s2
          | true =>
            rw [e3] at q
            refine ifT rfl ?_
            walk_at "rds"
            refine ⟨_, d4, rfl, h4.on s2, fun H3 s3 => ?_⟩
            exact q _ (s2.trans s3)
  · refine ⟨_, .ty _, _, _, false, rfl, .ty _, ty, kit_ty hk, ?_⟩
    walk_at "rds"
    rw [e] at q
    exact q H (Same.refl H)
def spCheckB (K : PySem.W.Frag) (A : Option Addr) (B : Addr) : Sp := fun vs H Q E => ∃ (v : V) (d : PyData), vs = [v] ∧ Dt K H A v d ∧ (dBlock d = true → ∀ H', Same H H' → Q v H') ∧ (dBlock d = false → ∀ H', Same H H' → E (.ref B) none H')
def dLink : PyData → PyData → Bool
  | .tuple [_, .int p, .int h, _], .tuple [.int e2, _, .int h2, _] => decide (p = e2) && decide (h = h2 + 1)
  | _, _ => false
def dFollows (d d2 : PyData) : Bool := dBlock d && (dBlock d2 || dGen d2) && dLink d d2
theorem dHeight_inv {p : Int} {h : PyData} (z : dHeight p h = true) : ∃ i, h = .int i := by
  unfold dHeight at z
  split at z
  · obtain ⟨i, e, _⟩ := dInt_inv z; exact ⟨i, e⟩
  · obtain ⟨i, e, _⟩ := dInt_inv z; exact ⟨i, e⟩
/-- a block's or genesis' first and third part -/
theorem dBlock_inv {d : PyData} (h : dBlock d = true) : ∃ (e p h : Int) (cs : List PyData), d = .tuple [.int e, .int p, .int h, .tuple cs] := by
  unfold dBlock at h
  split at h
  · unfold dBlock4 at h
    split at h
    · rename_i e p
      rw [Bool.and_eq_true, Bool.and_eq_true, Bool.and_eq_true] at h
      obtain ⟨⟨⟨_, _⟩, h3⟩, h4⟩ := h
      obtain ⟨i, rfl⟩ := dHeight_inv h3
      unfold dCmds at h4
      split at h4
      · exact ⟨_, _, _, _, rfl⟩
      · cases h4
    · cases h
  · cases h
theorem dGen_inv {d : PyData} (h : dGen d = true) : d = .tuple [.int 0, .int 0, .int 0, .tuple []] := by
  unfold dGen at h
  split at h
  · rw [Bool.and_eq_true, Bool.and_eq_true, Bool.and_eq_true] at h
    obtain ⟨⟨⟨h1, h2⟩, h3⟩, h4⟩ := h
    obtain ⟨i, rfl, a0, a1⟩ := dInt_inv h1
    obtain ⟨j, rfl, b0, b1⟩ := dInt_inv h2
    obtain ⟨k, rfl, c0, c1⟩ := dInt_inv h3
    unfold dEmpty at h4
    split at h4
    · rw [show i = 0 by omega, show j = 0 by omega, show k = 0 by omega]
    · cases h4
  · cases h
theorem Dt.quad {H : Hp} {A : Option Addr} {v : V} {d1 d2 d3 d4 : PyData} (h : Dt K H A v (.tuple [d1, d2, d3, d4])) : ∃ a x1 x2 x3 x4, v = .ref a ∧ TupAt K H a [x1, x2, x3, x4] ∧ Dt K H A x1 d1 ∧ Dt K H A x2 d2 ∧ Dt K H A x3 d3 ∧ Dt K H A x4 d4 := by
  cases h with
  | tup ha hd =>
    obtain ⟨x1, x2, x3, x4, e1, e2, e3, e4, rfl, e, h1, h2, h3, h4⟩ := hd.four hd.length
    cases e
    exact ⟨_, _, _, _, _, rfl, ha, h1, h2, h3, h4⟩
theorem c_check_block {C_BadBlock : Addr} {C_LedgerError : Addr} {C_GENESIS : Addr} {C_GENESIS_3 : Addr} (T : Txt K mg C_BadBlock C_LedgerError C_GENESIS C_GENESIS_3) (A : Option Addr) : CalX P w K mg base 6 "check_block" (spCheckB K A C_BadBlock) := by
  have c_is_block := c_is_block (P := P) (w := w) (base := base) T A
  refine calX T.d_check_block sc_check_block (fun vs H Q E h => ?_) (fun f cdv A' outer s H vs Q E hr h => ?_)
  · obtain ⟨v, d, rfl, _⟩ := h; rfl
  obtain ⟨v, d, rfl, hd, q0, q1⟩ := h
  refine ⟨_, (pss_cons (ps_if (pt_not (pt_val (pe_c c_is_block hr (by decide) (by rfl) (pa_cons (pv 0) pa_nil)))) (pss_one (ps_raise rfl (takes_of rfl rfl rfl rfl) (pmk_ok T.x_BadBlock (by rfl)))) pss_nil)
      (pss_one (ps_ret (pv 0)))), ?_⟩
  walk_at "rds"
  refine ⟨_, d, rfl, hd, fun H2 s2 => ?_⟩
  refine ⟨_, rfl, ?_⟩
  cases e : dBlock d with
  | false =>
    refine ifT rfl ?_
    exact q1 e _ s2
  | true =>
    refine ifF rfl ?_
    walk_at "rds"
    exact q0 e _ s2
def spTwo (K : PySem.W.Frag) (A : Option Addr) (f : PyData → PyData → Bool) : Sp := fun vs H Q _ => ∃ (v v2 : V) (d d2 : PyData), vs = [v, v2] ∧ Dt K H A v d ∧ Dt K H A v2 d2 ∧ ∀ H', Same H H' → Q (.bl (f d d2)) H'
theorem c_follows {C_BadBlock : Addr} {C_LedgerError : Addr} {C_GENESIS : Addr} {C_GENESIS_3 : Addr} (T : Txt K mg C_BadBlock C_LedgerError C_GENESIS C_GENESIS_3) (A : Option Addr) : Cal P w K mg base 6 "follows" (spTwo K A dFollows) [] := by
  have c_is_block := c_is_block (P := P) (w := w) (base := base) T A
  have c_is_genesis := c_is_genesis (P := P) (w := w) (base := base) T A
  refine cal T.d_follows sc_follows (fun vs H Q E h => ?_) (fun f cdv A' outer s H vs Q E hr h => ?_)
  · obtain ⟨v, v2, d, d2, rfl, _⟩ := h; rfl
  obtain ⟨v, v2, d, d2, rfl, hd, hd2, q⟩ := h
  refine ⟨_, (pss_cons (ps_if (PW.pt (pw_or (pt_not (pt_val (pe_c c_is_block hr (by decide) (by rfl) (pa_cons (pv 0) pa_nil)))) (pw_or1 (pt_not (PW.pt (pw_or (pt_val (pe_c c_is_block hr (by decide) (by rfl) (pa_cons (pv 1) pa_nil))) (pw_or1 (pt_val (pe_c c_is_genesis hr (by decide) (by rfl) (pa_cons (pv 1) pa_nil)))))))))) (pss_one (ps_ret pe_bl)) pss_nil)
      (pss_one (ps_ret (pe_and (pe_cmpR op_eq (pe_ix (kixt (K := K)) (pv 0) pe_int (fun _ _ => rfl)) (pe_ix (kixt (K := K)) (pv 1) pe_int (fun _ _ => rfl)) (nomark _)) (pe_one (pe_cmpR op_eq (pe_ix (kixt (K := K)) (pv 0) pe_int (fun _ _ => rfl)) (pe_op op_add (pe_ix (kixt (K := K)) (pv 1) pe_int (fun _ _ => rfl)) pe_int) (nomark _))))))), ?_⟩
  walk_at "rds"
  refine ⟨_, d, rfl, hd, fun H2 s2 => ?_⟩
  have q : ∀ H', Same H H' → Q (.bl (dBlock d && (dBlock d2 || dGen d2) && dLink d d2)) H' := q
  refine ⟨_, rfl, ?_⟩
  cases e : dBlock d with
  | false =>
    rw [e] at q
    refine ifT rfl ?_
    refine ifT rfl ?_
    exact q _ s2
  | true =>
    rw [e] at q
    refine ifF rfl ?_
    obtain ⟨e1, p1, h1, cs1, rfl⟩ := dBlock_inv e
    have fin : (dBlock d2 || dGen d2) = true → ∃ e2 p2 h2 cs2, d2 = .tuple [.int e2, .int p2, .int h2, .tuple cs2] := by
      intro z
      rcases Bool.or_eq_true_iff.mp z with z | z
      · obtain ⟨e2, p2, h2, cs2, rfl⟩ := dBlock_inv z
        exact ⟨_, _, _, _, rfl⟩
      · exact ⟨_, _, _, _, dGen_inv z⟩
    walk_at "rds"
    refine ⟨_, d2, rfl, hd2.on s2, fun H3 s3 => ?_⟩
    refine ⟨_, rfl, ?_⟩
    have hd := hd
    cases eb : dBlock d2 with
    | true =>
      have z : (dBlock d2 || dGen d2) = true := by rw [eb]; rfl
      refine ifT rfl ?_
      refine ifF rfl ?_
      obtain ⟨e2, p2, h2, cs2, rfl⟩ := fin z
      obtain ⟨a, y1, y2, y3, y4, rfl, ha, g1, g2, g3, g4⟩ := (hd.on (s2.trans s3)).quad
      obtain ⟨a2, z1, z2, z3, z4, rfl, ha2, k1, k2, k3, k4⟩ := (hd2.on (s2.trans s3)).quad
      cases g1; cases g2; cases g3; cases k1; cases k2; cases k3
      walk_at "rds"
      refine ⟨a, _, 1, _, rfl, rfl, ha.sq, atI_nat rfl, ?_⟩
      walk_at "rds"
      refine ⟨a2, _, 0, _, rfl, rfl, ha2.sq, atI_nat rfl, ?_⟩
      walk_at "rds"
      have q := q _ (s2.trans s3)
      rw [z] at q
      have q : Q (.bl (decide (p1 = e2) && decide (h1 = h2 + 1))) _ := q
      by_cases ee : p1 = e2
      · subst ee
        refine ifT (by simp) ?_
        walk_at "rds"
        refine ⟨a, _, 2, _, rfl, rfl, ha.sq, atI_nat rfl, ?_⟩
        walk_at "rds"
        refine ⟨a2, _, 2, _, rfl, rfl, ha2.sq, atI_nat rfl, ?_⟩
        walk_at "rds"
        have e9 : (decide (p1 = p1) && decide (h1 = h2 + 1)) = decide (V.int h1 = V.int (h2 + 1)) := by rw [decide_eq_true rfl, Bool.true_and]; exact decide_eq_decide.mpr ⟨fun z => by rw [z], V.int.inj⟩
        rw [e9] at q
        exact q
      · refine ifF (decide_eq_false fun z => ee (V.int.inj z)) ?_
        rw [decide_eq_false ee] at q
        exact q

    | false =>
      refine ifF rfl ?_
      walk_at "rds"
      refine ⟨_, d2, rfl, (hd2.on s2).on s3, fun H4 s4 => ?_⟩
      refine ⟨_, rfl, ?_⟩
      cases eg : dGen d2 with
      | false =>
        rw [eb, eg] at q
        refine ifT rfl ?_
        exact q _ ((s2.trans s3).trans s4)
      | true =>
        have z : (dBlock d2 || dGen d2) = true := by rw [eg, Bool.or_true]
        refine ifF rfl ?_
        obtain ⟨e2, p2, h2, cs2, rfl⟩ := fin z
        obtain ⟨a, y1, y2, y3, y4, rfl, ha, g1, g2, g3, g4⟩ := (hd.on ((s2.trans s3).trans s4)).quad
        obtain ⟨a2, z1, z2, z3, z4, rfl, ha2, k1, k2, k3, k4⟩ := (hd2.on ((s2.trans s3).trans s4)).quad
        cases g1; cases g2; cases g3; cases k1; cases k2; cases k3
        walk_at "rds"
        refine ⟨a, _, 1, _, rfl, rfl, ha.sq, atI_nat rfl, ?_⟩
        walk_at "rds"
        refine ⟨a2, _, 0, _, rfl, rfl, ha2.sq, atI_nat rfl, ?_⟩
        walk_at "rds"
        have q := q _ ((s2.trans s3).trans s4)
        rw [z] at q
        have q : Q (.bl (decide (p1 = e2) && decide (h1 = h2 + 1))) _ := q
        by_cases ee : p1 = e2
        · subst ee
          refine ifT (by simp) ?_
          walk_at "rds"
          refine ⟨a, _, 2, _, rfl, rfl, ha.sq, atI_nat rfl, ?_⟩
          walk_at "rds"
          refine ⟨a2, _, 2, _, rfl, rfl, ha2.sq, atI_nat rfl, ?_⟩
          walk_at "rds"
          have e9 : (decide (p1 = p1) && decide (h1 = h2 + 1)) = decide (V.int h1 = V.int (h2 + 1)) := by rw [decide_eq_true rfl, Bool.true_and]; exact decide_eq_decide.mpr ⟨fun z => by rw [z], V.int.inj⟩
          rw [e9] at q
          exact q
        · refine ifF (decide_eq_false fun z => ee (V.int.inj z)) ?_
          rw [decide_eq_false ee] at q
          exact q

def dFound (c : Int) : List PyData → PyData
  | [] => .none
  | d :: r => if dClient d = c then d else dFound c r
def spFound (K : PySem.W.Frag) (A : Option Addr) : Sp := fun vs H Q _ => ∃ (v : V) (e p h c : Int) (cs : List PyData), vs = [v, .int c] ∧ Dt K H A v (.tuple [.int e, .int p, .int h, .tuple cs]) ∧ dCmdsFrom none cs = true ∧ ∀ y, Dt K H A y (dFound c cs) → Q y H
theorem c_command_of {C_BadBlock : Addr} {C_LedgerError : Addr} {C_GENESIS : Addr} {C_GENESIS_3 : Addr} (T : Txt K mg C_BadBlock C_LedgerError C_GENESIS C_GENESIS_3) (A : Option Addr) : Cal P w K mg base 1 "command_of" (spFound K A) [] := by
  refine cal T.d_command_of sc_command_of (fun vs H Q E h => ?_) (fun f cdv A' outer s H vs Q E hr h => ?_)
  · obtain ⟨v, e, p, h, c, cs, rfl, _⟩ := h; rfl
  obtain ⟨v, e, p, h, c, cs, rfl, hd, hc, q⟩ := h
  refine ⟨_, (pss_cons (ps_for PassesOwn.never rfl (pi_tup (pe_ix (kixt (K := K)) (pv 0) pe_int (fun _ _ => rfl))) (pg_name (i := 2) sc_command_of.nd rfl (Or.inl rfl)) (pss_one (ps_if (pt_cmpR op_eq (pe_ix (kixt (K := K)) (pv 2) pe_int (fun _ _ => rfl)) (pv 1) (nomark _)) (pss_one (ps_ret (pv 2))) pss_nil)))
      (pss_one (ps_ret pe_non))), ?_⟩
  obtain ⟨a, x1, x2, x3, x4, rfl, ha, h1, h2, h3, h4⟩ := hd.quad
  cases h4 with
  | tup hb hx =>
    rename_i b xs
    walk_at "rds"
    refine ⟨a, _, 3, _, rfl, rfl, ha.sq, atI_nat rfl, ?_⟩
    refine ⟨b, rfl, ⟨xs, hb.sq⟩, ?_⟩
    refine for_it (walk_tup (K := K) (a := b) (xs := xs)) (Pv := fun i σ H' => ∃ (y : Option V), σ = [some (.ref a), some (.int c), y] ∧ H' = H ∧ dFound c cs = dFound c (cs.drop i)) ⟨none, rfl, rfl, rfl⟩ (fun i σ H' _ h => by obtain ⟨_, _, rfl, _⟩ := h; exact hb.sq) (fun i x σ H2 H3 hi hp hy => ?_) (fun σ H2 hp => ?_)
    · obtain ⟨y, rfl, rfl, eq⟩ := hp
      obtain ⟨rfl, gx⟩ := hy
      obtain ⟨d, gd, hdx⟩ := hx.get gx
      have hid : i < cs.length := (List.getElem?_eq_some_iff.mp gd).1
      have edrop : cs.drop i = d :: cs.drop (i + 1) := by
        rw [List.drop_eq_getElem_cons hid]
        rw [List.getElem?_eq_getElem hid] at gd
        cases gd; rfl
      obtain ⟨c', n', t', rfl, _⟩ := dCmd_inv (dCmdsFrom_all hc d (List.mem_of_getElem? gd))
      obtain ⟨aq, y1, y2, y3, rfl, haq, g1, g2, g3⟩ := id hdx.three
      cases g1
      rw [edrop] at eq
      have eq : dFound c cs = if c' = c then .tuple [.int c', .int n', .str t'] else dFound c (cs.drop (i + 1)) := eq
      walk_at "rds"
      refine ⟨aq, _, 0, _, rfl, rfl, haq.sq, atI_nat rfl, ?_⟩
      walk_at "rds"
      refine ite2 (fun e => ?_) (fun e => ?_)
      · have e : c' = c := V.int.inj (of_decide_eq_true e)
        rw [if_pos e] at eq
        walk_at "rds"
        exact q _ (eq ▸ hdx)
      · have e : ¬ c' = c := fun z => e (decide_eq_true (by rw [z]))
        rw [if_neg e] at eq
        exact ⟨_, rfl, rfl, eq⟩
    · obtain ⟨y, rfl, rfl, eq⟩ := hp
      rw [List.drop_of_length_le (by rw [hx.length]; exact Nat.le_refl _)] at eq
      walk_at "rds"
      exact q _ (eq ▸ .non)
end

/-! ### the law's commands -/
def spCommand (K : PySem.W.Frag) : Sp := fun vs H Q _ => ∃ (D A : Addr) (c : Int), vs = [.ref D, .ref A, .int c] ∧ Dr H D A ∧ -100 ≤ c ∧ c ≤ -1 ∧
  ∀ (H' : Hp) (x : V) (d : PyData), Mod A H H' → Dr H' D A → Dt K H' A x d → dCmd d = true → dClient d = c → Q x H'
def spCommands (K : PySem.W.Frag) : Sp := fun vs H Q _ => ∃ (D A : Addr) (m : Int), vs = [.ref D, .ref A, .int m] ∧ Dr H D A ∧ 0 ≤ m ∧ m ≤ 50 ∧
  ∀ (H' : Hp) (x : V) (cs : List PyData), Mod A H H' → Dr H' D A → Dt K H' A x (.tuple cs) → dCmdsFrom none cs = true → cs.length ≤ 100 → Q x H'
def spTruth : Sp := fun vs H Q _ => ∃ (a b : Bool), vs = [.bl a, .bl b] ∧ Q (.bl (decide (V.bl a = V.bl b))) H
theorem Mod.put {A l : Addr} {o : HO} {H H' : Hp} (s : Mod A H H') (h : H l = none) : Mod A H (upd H' l o) := fun b u n e => by
  rw [upd_ne (ne_of_none e h)]
  exact s b u n e
section
variable {P : Program} {w : World} {K : PySem.W.Frag} {mg : Str → Option Value} {base : Heap}
theorem c__law_truth {C_BadBlock : Addr} {C_LedgerError : Addr} {C_GENESIS : Addr} {C_GENESIS_3 : Addr} (T : Txt K mg C_BadBlock C_LedgerError C_GENESIS C_GENESIS_3) : Cal P w K mg base 1 "_law_truth" spTruth [] := by
  refine cal T.d__law_truth sc__law_truth (fun vs H Q E h => ?_) (fun f cdv A' outer s H vs Q E hr h => ?_)
  · obtain ⟨a, b, rfl, _⟩ := h; rfl
  obtain ⟨a, b, rfl, q⟩ := h
  refine ⟨_, (pss_one (ps_ret (pe_and (pe_callB (kisi (K := K)) (by rfl) T.z_isinstance (by decide +kernel) (pa_cons (pv 0) (pa_cons (pe_bltn (v := .ty "bool") (by rfl) T.z_bool (by decide +kernel) rfl) pa_nil))) (pe_one (pe_cmpR op_eq (pv 0) (pv 1) (nomark _)))))), ?_⟩
  walk_at "rds"
  walk_at "isi"
  walk_at "rds"
  exact q
theorem c__law_command {C_BadBlock : Addr} {C_LedgerError : Addr} {C_GENESIS : Addr} {C_GENESIS_3 : Addr} (T : Txt K mg C_BadBlock C_LedgerError C_GENESIS C_GENESIS_3) : Cal P w K mg base 3 "_law_command" (spCommand K) [] := by
  have c__law_next := c__law_next (P := P) (w := w) (base := base) T
  have c__law_big := c__law_big (P := P) (w := w) (base := base) T
  have c__law_string := c__law_string (P := P) (w := w) (base := base) T
  refine cal T.d__law_command sc__law_command (fun vs H Q E h => ?_) (fun f cdv A' outer s H vs Q E hr h => ?_)
  · obtain ⟨D, A, c, rfl, _⟩ := h; rfl
  obtain ⟨D, A, c, rfl, dr, hc0, hc1, q⟩ := h
  refine ⟨_, (pss_cons (ps_set (i := 3) sc__law_command.nd rfl (Or.inl rfl) (pe_op op_add pe_int (pe_c c__law_next hr (by decide) (by rfl) (pa_cons (pv 0) (pa_cons (pv 1) (pa_cons pe_int pa_nil))))))
      (pss_cut (ps_if (pt_cmpR op_eq (pe_c c__law_next hr (by decide) (by rfl) (pa_cons (pv 0) (pa_cons (pv 1) (pa_cons pe_int pa_nil)))) pe_int (nomark _)) (pss_one (ps_set (i := 3) sc__law_command.nd rfl (Or.inl rfl) (pe_op op_add pe_int (pe_c c__law_big hr (by decide) (by rfl) (pa_cons (pv 0) (pa_cons (pv 1) (pa_cons (pe_op op_pow pe_int pe_int) pa_nil))))))) pss_nil)
      (pss_one (ps_ret (pe_tup (pa_cons (pv 2) (pa_cons (pv 3) (pa_cons (pe_c c__law_string hr (by decide) (by rfl) (pa_cons (pv 0) (pa_cons (pv 1) (pa_cons pe_int pa_nil)))) pa_nil)))))))), ?_⟩
  walk_at "rds"
  refine ⟨D, A, 5, rfl, dr, by decide, fun H1 n1 n10 n11 md1 dr1 => ?_⟩
  walk_at "rds"
  refine ⟨fun σ' H' => ∃ n : Int, σ' = [some (.ref D), some (.ref A), some (.int c), some (.int n)] ∧ 1 ≤ n ∧ n ≤ 1000000000000 ∧ Mod A H H' ∧ Dr H' D A, ?_, ?_⟩
  · walk_at "rds"
    refine ⟨D, A, 6, rfl, dr1, by decide, fun H2 s2 s20 s21 md2 dr2 => ?_⟩
    walk_at "rds"
    refine ite2 (fun _ => ?_) (fun _ => ?_)
    · walk_at "rds"
      refine ⟨D, A, 1000000000000, rfl, dr2, by decide, fun H3 s3 s30 s31 md3 dr3 => ?_⟩
      walk_at "rds"
      exact ⟨_, rfl, by omega, by omega, (md1.trans md2).trans md3, dr3⟩
    · exact ⟨_, rfl, by omega, by omega, md1.trans md2, dr2⟩
  rintro σ' H2 ⟨n, rfl, hn0, hn1, md2, dr2⟩
  walk_at "rds"
  refine ⟨D, A, 240, rfl, dr2, by decide, by decide, fun H3 z hz pz md3 dr3 => ?_⟩
  walk_at "rds"
  intro p hp
  have e : dCmd (.tuple [.int c, .int n, .str z]) = true := by
    show (decide (-100 ≤ c ∧ c ≤ -1) && decide (1 ≤ n ∧ n ≤ 1000000000000) && (isPr z && decide ((z.length : Int) ≤ 240))) = true
    rw [decide_eq_true ⟨hc0, hc1⟩, decide_eq_true ⟨hn0, hn1⟩, pz, decide_eq_true hz]; rfl
  exact q _ _ (.tuple [.int c, .int n, .str z]) ((md2.trans md3).new hp) (dr3.new hp) (.tup (.inl upd_same) (.cons (.int _) (.cons (.int _) (.cons (.str _ (by omega)) .nil)))) e rfl
theorem c__law_commands {C_BadBlock : Addr} {C_LedgerError : Addr} {C_GENESIS : Addr} {C_GENESIS_3 : Addr} (T : Txt K mg C_BadBlock C_LedgerError C_GENESIS C_GENESIS_3) : Cal P w K mg base 4 "_law_commands" (spCommands K) [] := by
  have c__law_next := c__law_next (P := P) (w := w) (base := base) T
  have c__law_command := c__law_command (P := P) (w := w) (base := base) T
  refine cal T.d__law_commands sc__law_commands (fun vs H Q E h => ?_) (fun f cdv A' outer s H vs Q E hr h => ?_)
  · obtain ⟨D, A, m, rfl, _⟩ := h; rfl
  obtain ⟨D, A, m, rfl, dr, hm0, hm1, q⟩ := h
  refine ⟨_, (pss_cons (ps_set (i := 3) sc__law_commands.nd rfl (Or.inl rfl) (pe_lst pa_nil))
      (pss_cons (ps_set (i := 4) sc__law_commands.nd rfl (Or.inl rfl) (pe_op op_add (pe_un un_neg pe_int) (pe_c c__law_next hr (by decide) (by rfl) (pa_cons (pv 0) (pa_cons (pv 1) (pa_cons pe_int pa_nil))))))
      (pss_cons (ps_for PassesOwn.never rfl (pi_range1 (by rfl) T.z_range (pa_cons (pe_c c__law_next hr (by decide) (by rfl) (pa_cons (pv 0) (pa_cons (pv 1) (pa_cons (pe_op op_add (pv 2) pe_int) pa_nil)))) pa_nil)) (pg_name (i := 5) sc__law_commands.nd rfl (Or.inl rfl)) (pss_cons (ps_if (pt_cmpR op_lt (pv 4) pe_int (nomark _)) (pss_one (ps_expr (pe_bm PySem.F.plainAttrs_list PySem.F.slot_list_append PySem.F.type_list_append mt_append (pv 3) (pa_cons (pe_c c__law_command hr (by decide) (by rfl) (pa_cons (pv 0) (pa_cons (pv 1) (pa_cons (pv 4) pa_nil)))) pa_nil)))) pss_nil)
      (pss_one (ps_set (i := 4) sc__law_commands.nd rfl (Or.inl rfl) (pe_op op_add (pe_op op_add (pv 4) pe_int) (pe_c c__law_next hr (by decide) (by rfl) (pa_cons (pv 0) (pa_cons (pv 1) (pa_cons pe_int pa_nil)))))))))
      (pss_one (ps_ret (pe_callTy call_tuple_of (by rfl) T.z_tuple (by decide +kernel) (pa_cons (pv 3) pa_nil))))))), ?_⟩
  refine ⟨by decide, fun l hl => ?_⟩
  have lA := dr.freshA hl
  have lD := dr.freshD hl
  walk_at "rds"
  refine ⟨D, A, 100, rfl, dr.new hl, by decide, fun H1 c1 c10 c11 md1 dr1 => ?_⟩
  walk_at "rds"
  refine ⟨D, A, _, rfl, dr1, by omega, fun H2 n n0 n1 md2 dr2 => ?_⟩
  obtain ⟨n, rfl⟩ := Int.eq_ofNat_of_zero_le n0
  walk_at "rds"
  refine for_it walk_range (Pv := fun i σ H' => ∃ (xs : List V) (ds : List PyData) (c : Int) (y : Option V), σ = [some (.ref D), some (.ref A), some (.int m), some (.ref l), some (.int c), y] ∧ H' l = some (.lst xs) ∧ DtAll K H' A xs ds ∧ dCmdsFrom none ds = true ∧ (∀ k, lastC none ds = some k → k < c) ∧ -100 ≤ c ∧ ds.length ≤ i ∧ Mod A H H' ∧ Dr H' D A)
    ⟨[], [], _, none, rfl, md2 _ _ lA (md1 _ _ lA upd_same), .nil, rfl, (fun _ z => nomatch z), by omega, by simp, ((Mod.refl.put hl).trans md1).trans md2, dr2⟩ (fun _ _ _ _ _ => trivial) (fun i x σ H3 H4 hi hp hy => ?_) (fun σ H3 hp => ?_)
  · obtain ⟨xs, ds, c, y, rfl, hl3, hx, hc, hk, hc0, hlen, md, dr⟩ := hp
    obtain ⟨rfl, rfl⟩ := hy
    have hi' : i < n := by omega
    walk_at "rds"
    refine ite2 (fun e => ?_) (fun e => ?_)
    · have e : c < 0 := of_decide_eq_true e
      walk_at "rds"
      refine ⟨.inl ⟨rfl, _, sq hl3⟩, ?_⟩
      walk_at "rds"
      refine ⟨D, A, c, rfl, dr, hc0, by omega, fun H5 x d md5 dr5 hd e1 e2 => ?_⟩
      have hl5 := md5 _ _ lA hl3
      refine ⟨l, xs, _, rfl, rfl, hl5, by rw [hx.length]; exact sz1000' (by omega), ?_⟩
      walk_at "rds"
      refine ⟨D, A, 20, rfl, dr5.put lD lA, by decide, fun H6 r r0 r1 md6 dr6 => ?_⟩
      walk_at "rds"
      have t5 := md5.tp dr
      have tp := tp_put (ys := xs ++ [x]) hl5
      have t6 := md6.tp (dr5.put (o := .lst (xs ++ [x])) lD lA)
      have all : dCmdsFrom none (ds ++ [d]) = true := by
        rw [dCmdsFrom_snoc, hc, e1]
        cases ek : lastC none ds with
        | none => rfl
        | some k => exact decide_eq_true (by rw [e2]; exact hk k ek)
      have hx1 := DtAll.keep (B := some A) t5 _ _ (dCmdsFrom_noL hc) hx
      have hx2 := DtAll.keep (B := some A) tp _ _ (dCmdsFrom_noL all) (hx1.snoc hd)
      refine ⟨xs ++ [x], ds ++ [d], _, _, rfl, md6 _ _ lA upd_same, DtAll.keep (B := some A) t6 _ _ (dCmdsFrom_noL all) hx2, all, fun k z => ?_, by omega, by rw [List.length_append, List.length_singleton]; omega, ((md.trans md5).put hl).trans md6, dr6⟩
      rw [lastC_snoc] at z
      cases z
      rw [e2]; omega
    · have e : ¬ c < 0 := fun z => e (decide_eq_true z)
      walk_at "rds"
      refine ⟨D, A, 20, rfl, dr, by decide, fun H6 r r0 r1 md6 dr6 => ?_⟩
      walk_at "rds"
      refine ⟨xs, ds, _, _, rfl, md6 _ _ lA hl3, DtAll.keep (B := some A) (md6.tp dr) _ _ (dCmdsFrom_noL hc) hx, hc, fun k z => ?_, by omega, by omega, md.trans md6, dr6⟩
      have := hk k z
      omega
  · obtain ⟨xs, ds, c, y, rfl, hl3, hx, hc, hk, hc0, hlen, md, dr⟩ := hp
    walk_at "rds"
    refine ⟨l, xs, rfl, .inl ⟨sq hl3, fun t ht => ?_⟩⟩
    exact q _ _ ds (md.new ht) (dr.new ht) (.tup (.inl upd_same) (hx.on (same_upd ht))) hc (by omega)
end

/-! ### the law's blocks -/
theorem call_isE2 {X : Cx} {a D : Addr} {cls : Value} {d : Option Addr} {oe : Obj} {pn : List (Addr × Obj)} (C : ExcC X.K D) (hz : Zc cls d oe) (hf : ∃ vs, oe.data = .fields vs) :
    CallR (X.suite a ((a, oe) :: pn)) (.builtin "isinstance") (fun xs H Q => (cls = .ref D ∧ d = none) ∧ rIsE X.K D a xs H Q) := fun pins s σ H xs us Q I hv ⟨⟨h1, h2⟩, h⟩ => by
  subst h1; subst h2
  exact call_isE C hz hf pins s σ H xs us Q I hv h
def spBlock (K : PySem.W.Frag) : Sp := fun vs H Q _ => ∃ (D A : Addr) (m : Int), vs = [.ref D, .ref A, .int m] ∧ Dr H D A ∧ 0 ≤ m ∧ m ≤ 50 ∧
  ∀ (H' : Hp) (x : V) (e p h : Int) (cs : List PyData), Mod A H H' → Dr H' D A → Dt K H' A x (.tuple [.int e, .int p, .int h, .tuple cs]) → dBlock (.tuple [.int e, .int p, .int h, .tuple cs]) = true → cs.length ≤ 100 → Q x H'
section
variable {P : Program} {w : World} {K : PySem.W.Frag} {mg : Str → Option Value} {base : Heap}
theorem c__law_refused {C_BadBlock : Addr} {C_LedgerError : Addr} {C_GENESIS : Addr} {C_GENESIS_3 : Addr} (T : Txt K mg C_BadBlock C_LedgerError C_GENESIS C_GENESIS_3) (A : Option Addr) : Cal P w K mg base 7 "_law_refused" (spPred K A (fun d => !dBlock d)) [] := by
  have c_check_block := c_check_block (P := P) (w := w) (base := base) T A
  refine cal T.d__law_refused sc__law_refused (fun vs H Q E h => ?_) (fun f cdv A' outer s H vs Q E hr h => ?_)
  · obtain ⟨v, d, rfl, _⟩ := h; rfl
  obtain ⟨v, d, rfl, hd, q⟩ := h
  refine ⟨_, (pss_cons (ps_try_as (i := 1) (Wout := fun _ _ _ _ => False) rfl rfl sc__law_refused.nd rfl rfl ⟨by rfl, by decide, .inl T.x_BadBlock.g⟩ takes0 (fun W pn xe tk po => (pss_one (ps_expr (pe_cX c_check_block hr (by decide) (by rfl) (fun σ => passAt tk σ) (pa_cons (pv 0) pa_nil))))) (fun a oe cls d pn hz hf => (pss_one (ps_ret (pe_callB (call_isE2 T.ec_BadBlock hz hf) (by rfl) T.z_isinstance (by decide +kernel) (pa_cons (pv 1) (pa_cons (pe_gc (v := .ref C_LedgerError) (by rfl) ⟨_, T.x_LedgerError.g, rfl⟩) pa_nil)))))))
      (pss_one (ps_ret pe_bl))), ?_⟩
  walk_at "rds"
  refine ⟨v, d, rfl, hd, fun e H' sm => ?_, fun e H' sm => ?_⟩
  · have q := q H' sm
    have q : Q (.bl (!dBlock d)) H' := q
    rw [e] at q
    walk_at "rds"
    exact q
  · have q := q H' sm
    have q : Q (.bl (!dBlock d)) H' := q
    rw [e] at q
    refine ⟨true, T.x_BadBlock.exm T.u_BadBlock_BadBlock, fun _ a ha => ?_, fun z => nomatch z⟩
    walk_at "rds"
    refine ⟨⟨rfl, rfl⟩, .ref C_LedgerError, .ref C_LedgerError, true, rfl, fun u hu => hu, T.kt_BadBlock_LedgerError, ?_⟩
    exact q
theorem c__law_block {C_BadBlock : Addr} {C_LedgerError : Addr} {C_GENESIS : Addr} {C_GENESIS_3 : Addr} (T : Txt K mg C_BadBlock C_LedgerError C_GENESIS C_GENESIS_3) : Cal P w K mg base 5 "_law_block" (spBlock K) [] := by
  have c__law_next := c__law_next (P := P) (w := w) (base := base) T
  have c__law_big := c__law_big (P := P) (w := w) (base := base) T
  have c__law_commands := c__law_commands (P := P) (w := w) (base := base) T
  refine cal T.d__law_block sc__law_block (fun vs H Q E h => ?_) (fun f cdv A' outer s H vs Q E hr h => ?_)
  · obtain ⟨D, A, m, rfl, _⟩ := h; rfl
  obtain ⟨D, A, m, rfl, dr, hm0, hm1, q⟩ := h
  refine ⟨_, (pss_cons (ps_set (i := 3) sc__law_block.nd rfl (Or.inl rfl) (pe_c c__law_next hr (by decide) (by rfl) (pa_cons (pv 0) (pa_cons (pv 1) (pa_cons pe_int pa_nil)))))
      (pss_cut (ps_if (pt_cmpR op_eq (pe_c c__law_next hr (by decide) (by rfl) (pa_cons (pv 0) (pa_cons (pv 1) (pa_cons pe_int pa_nil)))) pe_int (nomark _)) (pss_one (ps_set (i := 3) sc__law_block.nd rfl (Or.inl rfl) (pe_c c__law_big hr (by decide) (by rfl) (pa_cons (pv 0) (pa_cons (pv 1) (pa_cons (pe_op op_pow pe_int pe_int) pa_nil)))))) pss_nil)
      (pss_cons (ps_set (i := 4) sc__law_block.nd rfl (Or.inl rfl) (pe_op op_add (pe_op op_add (pv 3) pe_int) (pe_c c__law_next hr (by decide) (by rfl) (pa_cons (pv 0) (pa_cons (pv 1) (pa_cons pe_int pa_nil))))))
      (pss_cut (ps_if (pt_cmpR op_gt (pv 4) (pe_op op_pow pe_int pe_int) (nomark _)) (pss_cons (ps_set (i := 4) sc__law_block.nd rfl (Or.inl rfl) (pe_op op_pow pe_int pe_int))
      (pss_one (ps_set (i := 3) sc__law_block.nd rfl (Or.inl rfl) (pe_op op_sub (pe_op op_pow pe_int pe_int) pe_int)))) pss_nil)
      (pss_cons (ps_set (i := 5) sc__law_block.nd rfl (Or.inl rfl) pe_int)
      (pss_cut (ps_if (pt_cmpR op_gt (pv 3) pe_int (nomark _)) (pss_cons (ps_set (i := 5) sc__law_block.nd rfl (Or.inl rfl) (pe_op op_add pe_int (pe_c c__law_next hr (by decide) (by rfl) (pa_cons (pv 0) (pa_cons (pv 1) (pa_cons (pe_callB (call_min2 rfl) (by rfl) T.z_min (by decide +kernel) (pa_cons (pv 3) (pa_cons pe_int pa_nil))) pa_nil))))))
      (pss_one (ps_if (pt_cmpR op_eq (pe_c c__law_next hr (by decide) (by rfl) (pa_cons (pv 0) (pa_cons (pv 1) (pa_cons pe_int pa_nil)))) pe_int (nomark _)) (pss_one (ps_set (i := 5) sc__law_block.nd rfl (Or.inl rfl) (pe_op op_add (pv 3) pe_int))) pss_nil))) pss_nil)
      (pss_one (ps_ret (pe_tup (pa_cons (pv 4) (pa_cons (pv 3) (pa_cons (pv 5) (pa_cons (pe_c c__law_commands hr (by decide) (by rfl) (pa_cons (pv 0) (pa_cons (pv 1) (pa_cons (pv 2) pa_nil)))) pa_nil))))))))))))), ?_⟩
  walk_at "rds"
  refine ⟨D, A, 4, rfl, dr, by decide, fun H1 p1 p10 p11 md1 dr1 => ?_⟩
  walk_at "rds"
  refine ⟨fun σ' H' => ∃ p : Int, σ' = [some (.ref D), some (.ref A), some (.int m), some (.int p), none, none] ∧ 0 ≤ p ∧ p < 1000000000000 ∧ Mod A H H' ∧ Dr H' D A, ?_, ?_⟩
  · walk_at "rds"
    refine ⟨D, A, 6, rfl, dr1, by decide, fun H2 s2 s20 s21 md2 dr2 => ?_⟩
    walk_at "rds"
    refine ite2 (fun _ => ?_) (fun _ => ?_)
    · walk_at "rds"
      refine ⟨D, A, 1000000000000, rfl, dr2, by decide, fun H3 s3 s30 s31 md3 dr3 => ?_⟩
      exact ⟨_, rfl, by omega, by omega, (md1.trans md2).trans md3, dr3⟩
    · exact ⟨_, rfl, by omega, by omega, md1.trans md2, dr2⟩
  rintro σ' H2 ⟨p, rfl, hp0, hp1, md2, dr2⟩
  walk_at "rds"
  refine ⟨D, A, 9, rfl, dr2, by decide, fun H3 e3 e30 e31 md3 dr3 => ?_⟩
  walk_at "rds"
  refine ⟨fun σ' H' => ∃ p e : Int, σ' = [some (.ref D), some (.ref A), some (.int m), some (.int p), some (.int e), none] ∧ 0 ≤ p ∧ p < e ∧ e ≤ 1000000000000 ∧ Mod A H H' ∧ Dr H' D A, ?_, ?_⟩
  · walk_at "rds"
    refine ite2 (fun z => ?_) (fun z => ?_)
    · walk_at "rds"
      exact ⟨999999999999, 1000000000000, rfl, by omega, by omega, by omega, md2.trans md3, dr3⟩
    · have z : ¬ (p + 1 + e3 > (10 : Int) ^ (12 : Int).toNat) := fun y => z (decide_eq_true y)
      have e12 : (10 : Int) ^ (12 : Int).toNat = 1000000000000 := rfl
      exact ⟨p, _, rfl, hp0, by omega, by omega, md2.trans md3, dr3⟩
  rintro σ' H4 ⟨p, e, rfl, hp0, hp1, he, md4, dr4⟩
  walk_at "rds"
  refine ⟨fun σ' H' => ∃ h : Int, σ' = [some (.ref D), some (.ref A), some (.int m), some (.int p), some (.int e), some (.int h)] ∧ dHeight p (.int h) = true ∧ Mod A H H' ∧ Dr H' D A, ?_, ?_⟩
  · walk_at "rds"
    refine ite2 (fun z => ?_) (fun z => ?_)
    · have z : p > 0 := of_decide_eq_true z
      walk_at "rds"
      refine ⟨_, _, rfl, ?_⟩
      have hmin : 1 ≤ (if (999 : Int) < p then 999 else p) ∧ (if (999 : Int) < p then 999 else p) ≤ p := by split <;> omega
      generalize (if (999 : Int) < p then 999 else p) = mn at hmin
      refine ⟨D, A, mn, rfl, dr4, by omega, fun H5 h1 h10 h11 md5 dr5 => ?_⟩
      walk_at "rds"
      refine ⟨D, A, 5, rfl, dr5, by decide, fun H6 h2 h20 h21 md6 dr6 => ?_⟩
      walk_at "rds"
      have hp : ¬ p = 0 := by omega
      refine ite2 (fun _ => ?_) (fun _ => ?_)
      · walk_at "rds"
        exact ⟨_, rfl, by unfold dHeight; rw [if_neg hp]; exact decide_eq_true (by omega), (md4.trans md5).trans md6, dr6⟩
      · exact ⟨_, rfl, by unfold dHeight; rw [if_neg hp]; exact decide_eq_true (by omega), (md4.trans md5).trans md6, dr6⟩
    · have z : ¬ p > 0 := fun y => z (decide_eq_true y)
      exact ⟨1, rfl, by rw [show p = 0 by omega]; rfl, md4, dr4⟩
  rintro σ' H5 ⟨h, rfl, hh, md5, dr5⟩
  walk_at "rds"
  refine ⟨D, A, m, rfl, dr5, hm0, hm1, fun H6 x cs md6 dr6 hx hc hlen => ?_⟩
  walk_at "rds"
  intro t ht
  refine q _ _ e p h cs ((md5.trans md6).new ht) (dr6.new ht) (.tup (.inl upd_same) (.cons (.int _) (.cons (.int _) (.cons (.int _) (.cons (hx.on (same_upd ht)) .nil))))) ?_ hlen
  show (dInt 1 1000000000000 (.int e) && dInt 0 (e - 1) (.int p) && dHeight p (.int h) && dCmdsFrom none cs) = true
  rw [hh, hc, show dInt 1 1000000000000 (.int e) = true from decide_eq_true (by omega), show dInt 0 (e - 1) (.int p) = true from decide_eq_true (by omega)]
  rfl
theorem inV_int (a : Int) (ys : List Int) : inV (.int a) (ys.map V.int) = decide (a ∈ ys) := by
  unfold inV
  rw [List.any_map]
  induction ys with
  | nil => rfl
  | cons y r ih =>
    rw [List.any_cons, ih]
    by_cases h : y = a
    · subst h
      simp [eqV]
    · have h' : ¬ a = y := fun e => h e.symm
      simp [eqV, h, h']
theorem flat_ints (ys : List Int) : (ys.map V.int).all flatV = true := by
  rw [List.all_map, List.all_eq_true]
  intro x _
  rfl


/-! facts of data for comparisons -/
theorem strOk_pr {z : Str} (h : isPr z = true) : PyData.strOk z = true := by
  unfold PyData.strOk
  rw [← Array.all_toList, List.all_eq_true]
  intro c hc
  have := List.all_eq_true.mp h c hc
  unfold prC at this
  rw [Bool.and_eq_true, Bool.and_eq_true] at this
  have := of_decide_eq_true this.1.2
  exact decide_eq_true (by omega)
theorem lay_cmd {d : PyData} (h : dCmd d = true) : d.canLay0 = true ∧ d.depth = 1 := by
  obtain ⟨c, n, t, rfl, _, _, _, _, p, _⟩ := dCmd_inv h
  constructor
  · simp [PyData.canLay0, PyData.canLayAll0, strOk_pr p]
  · simp [PyData.depth, PyData.depthAll]
theorem shaped_cmd {d : PyData} (h : dCmd d = true) : SeqAt.shaped d = true := by
  unfold SeqAt.shaped
  rw [(lay_cmd h).1, (lay_cmd h).2]; rfl
theorem lay_cmds : ∀ {ds : List PyData} {b : Option Int}, dCmdsFrom b ds = true → PyData.canLayAll0 ds = true ∧ PyData.depthAll ds ≤ 1
  | [], _, _ => ⟨by simp [PyData.canLayAll0], by simp [PyData.depthAll]⟩
  | d :: r, b, h => by
    rw [dCmdsFrom_cons, Bool.and_eq_true, Bool.and_eq_true] at h
    obtain ⟨i1, i2⟩ := lay_cmds h.2
    obtain ⟨j1, j2⟩ := lay_cmd h.1.1
    constructor
    · rw [PyData.canLayAll0, i1, j1]; rfl
    · rw [PyData.depthAll, j2]; omega
theorem shaped_block {e p h : Int} {cs : List PyData} (hc : dCmdsFrom none cs = true) : SeqAt.shaped (.tuple [.int e, .int p, .int h, .tuple cs]) = true ∧ (PyData.tuple [.int e, .int p, .int h, .tuple cs]).canLay0 = true := by
  obtain ⟨i1, i2⟩ := lay_cmds hc
  have l : (PyData.tuple [.int e, .int p, .int h, .tuple cs]).canLay0 = true := by simp [PyData.canLay0, PyData.canLayAll0, i1]
  refine ⟨?_, l⟩
  unfold SeqAt.shaped
  rw [l]
  simp [PyData.depth, PyData.depthAll]
  omega
theorem asc_all : ∀ {ds : List PyData} {k : Int}, dCmdsFrom (some k) ds = true → ∀ d ∈ ds, k < dClient d
  | [], _, _, _, m => nomatch m
  | d :: r, k, h, e, m => by
    rw [dCmdsFrom_cons, Bool.and_eq_true, Bool.and_eq_true] at h
    have hk : k < dClient d := of_decide_eq_true h.1.2
    rcases List.mem_cons.mp m with rfl | m
    · exact hk
    · have := asc_all h.2 e m
      omega
theorem found_at : ∀ {ds : List PyData} {b : Option Int} {i : Nat} {d : PyData}, dCmdsFrom b ds = true → ds[i]? = some d → dFound (dClient d) ds = d
  | [], _, _, _, _, e => by simp at e
  | x :: r, b, 0, d, _, e => by
    simp at e; subst e
    show (if dClient x = dClient x then x else _) = x
    rw [if_pos rfl]
  | x :: r, b, i + 1, d, h, e => by
    rw [dCmdsFrom_cons, Bool.and_eq_true, Bool.and_eq_true] at h
    have e : r[i]? = some d := by simpa using e
    have hk := asc_all h.2 d (List.mem_of_getElem? e)
    show (if dClient x = dClient d then x else dFound (dClient d) r) = d
    rw [if_neg (by omega)]
    exact found_at h.2 e
theorem found_none : ∀ {ds : List PyData} {c : Int}, (∀ d ∈ ds, dClient d ≠ c) → dFound c ds = .none
  | [], _, _ => rfl
  | x :: r, c, h => by
    show (if dClient x = c then x else dFound c r) = _
    rw [if_neg (h x List.mem_cons_self)]
    exact found_none fun d m => h d (List.mem_cons_of_mem _ m)
theorem client_int {d : PyData} (h : dCmd d = true) {K : PySem.W.Frag} {H : Hp} {A : Option Addr} {x : V} (hx : Dt K H A x d) : ∃ a x2 x3, x = .ref a ∧ TupAt K H a [.int (dClient d), x2, x3] := by
  obtain ⟨c, n, t, rfl, _⟩ := dCmd_inv h
  obtain ⟨a, x1, x2, x3, rfl, ha, h1, h2, h3⟩ := hx.three
  cases h1
  exact ⟨a, x2, x3, rfl, ha⟩
def spFoundLaw (K : PySem.W.Frag) (A : Option Addr) : Sp := fun vs H Q _ => ∃ (v : V) (e p h : Int) (cs : List PyData), vs = [v] ∧ Dt K H A v (.tuple [.int e, .int p, .int h, .tuple cs]) ∧ dCmdsFrom none cs = true ∧ cs.length ≤ 100 ∧ ∀ H', Same H H' → Q (.bl true) H'
theorem c__law_found {C_BadBlock : Addr} {C_LedgerError : Addr} {C_GENESIS : Addr} {C_GENESIS_3 : Addr} (T : Txt K mg C_BadBlock C_LedgerError C_GENESIS C_GENESIS_3) (A : Option Addr) : Cal P w K mg base 2 "_law_found" (spFoundLaw K A) [] := by
  have c_command_of := c_command_of (P := P) (w := w) (base := base) T A
  refine cal T.d__law_found sc__law_found (fun vs H Q E h => ?_) (fun f cdv A' outer s H vs Q E hr h => ?_)
  · obtain ⟨v, e, p, h, cs, rfl, _⟩ := h; rfl
  obtain ⟨v, e, p, h, cs, rfl, hd, hc, hlen, q⟩ := h
  refine ⟨_, (pss_cons (ps_for PassesOwn.never rfl (pi_tup (pe_ix (kixt (K := K)) (pv 0) pe_int (fun _ _ => rfl))) (pg_name (i := 1) sc__law_found.nd rfl (Or.inl rfl)) (pss_one (ps_if (pt_cmpR (op_neD hr.units) (pe_c c_command_of hr (by decide) (by rfl) (pa_cons (pv 0) (pa_cons (pe_ix (kixt (K := K)) (pv 1) pe_int (fun _ _ => rfl)) pa_nil))) (pv 1) (nomark _)) (pss_one (ps_ret pe_bl)) pss_nil)))
      (pss_cons (ps_setLc (i := 2) (own := [("command", 1)]) (g := gName 1) rfl sc__law_found.nd rfl rfl (sw_true rfl rfl rfl (by decide +kernel)) (pi_tup (pe_ix (kixt (K := K)) (pv 0) pe_int (fun _ _ => rfl))) (blkOk_by (own := [("command", 1)]) (N := ["block", "command", "clients", "client"]) (sc := defScope s__law_found) (by decide +kernel)) (fun _ _ _ _ _ => pg_name (i := 1) sc__law_found.nd rfl (Or.inl rfl)) (fun _ _ _ _ _ => pts_nil) (fun _ _ _ _ _ => (pe_ix (kixt (K := K)) (pv 1) pe_int (fun _ _ => rfl))))
      (pss_cons (ps_for PassesOwn.never rfl (pi_list (pe_lst (pa_cons (pe_un un_neg pe_int) (pa_cons (pe_un un_neg pe_int) (pa_cons (pe_un un_neg pe_int) pa_nil))))) (pg_name (i := 3) sc__law_found.nd rfl (Or.inl rfl)) (pss_one (ps_if (PW.pt (pw_and (pt_cmpR (knin (K := K)) (pv 3) (pv 2) (by rfl)) (pw_and1 (pt_cmpR op_notN (pe_c c_command_of hr (by decide) (by rfl) (pa_cons (pv 0) (pa_cons (pv 3) pa_nil))) pe_non (nomark _))))) (pss_one (ps_ret pe_bl)) pss_nil)))
      (pss_one (ps_ret pe_bl))))), ?_⟩
  obtain ⟨a, x1, x2, x3, x4, rfl, ha, h1, h2, h3, h4⟩ := id hd.quad
  cases h4 with
  | tup hb hx =>
    rename_i b xs
    walk_at "rds"
    refine ⟨a, _, 3, _, rfl, rfl, ha.sq, atI_nat rfl, ?_⟩
    refine ⟨b, rfl, ⟨xs, hb.sq⟩, ?_⟩
    refine for_it (walk_tup (K := K) (a := b) (xs := xs)) (Pv := fun i σ H' => ∃ (y : Option V), σ = [some (.ref a), y, none, none] ∧ H' = H) ⟨none, rfl, rfl⟩ (fun i σ H' _ h => by obtain ⟨_, _, rfl⟩ := h; exact hb.sq) (fun i x σ H2 H3 hi hp hy => ?_) (fun σ H2 hp => ?_)
    · obtain ⟨y, rfl, rfl⟩ := hp
      obtain ⟨rfl, gx⟩ := hy
      obtain ⟨d, gd, hdx⟩ := hx.get gx
      have ec := dCmdsFrom_all hc d (List.mem_of_getElem? gd)
      obtain ⟨aq, y2, y3, rfl, haq⟩ := client_int ec hdx
      walk_at "rds"
      refine ⟨aq, _, 0, _, rfl, rfl, haq.sq, atI_nat rfl, ?_⟩
      walk_at "rds"
      refine ⟨_, e, p, h, _, cs, rfl, hd, hc, fun y hy => ?_⟩
      rw [found_at hc gd] at hy
      walk_at "rds"
      refine ⟨d, d, hy.dp, hdx.dp, shaped_cmd ec, shaped_cmd ec, ?_⟩
      rw [SeqAt.eqv_refl d (lay_cmd ec).1]
      refine ⟨_, rfl, ?_⟩
      refine ifF rfl ?_
      exact ⟨_, rfl, rfl⟩
    · obtain ⟨y, rfl, rfl⟩ := hp
      walk_at "rds"
      refine ⟨a, _, 3, _, rfl, rfl, ha.sq, atI_nat rfl, ?_⟩
      refine ⟨b, rfl, ⟨xs, hb.sq⟩, fun C hC => ?_⟩
      refine lc_it (walk_tup (K := K) (a := b) (xs := xs)) (Pv := fun i H' => Same H2 H' ∧ H' C = some (.lst (((cs.take i).map dClient).map V.int))) ⟨same_upd hC, upd_same⟩ (fun _ _ _ h => (hb.same h.1).sq) (fun i x H3 H4 hi hp hy => ?_) (fun H3 hp => ?_)
      · obtain ⟨sm, hl⟩ := hp
        obtain ⟨rfl, gx⟩ := hy
        obtain ⟨d, gd, hdx⟩ := hx.get gx
        have ec := dCmdsFrom_all hc d (List.mem_of_getElem? gd)
        obtain ⟨aq, y2, y3, rfl, haq⟩ := client_int ec (hdx.on sm)
        refine ⟨rfl, ?_⟩
        walk_at "rds"
        refine ⟨aq, _, 0, _, rfl, rfl, haq.sq, atI_nat rfl, ?_⟩
        refine ⟨_, hl, sz1000' (by rw [List.length_map, List.length_map, List.length_take]; omega), same_mut sm hC, ?_⟩
        rw [upd_same, List.take_add_one, gd]
        simp
      · obtain ⟨sm, hl⟩ := hp
        rw [hx.length, List.take_length] at hl
        walk_at "rds"
        intro L hL
        refine ⟨L, rfl, ⟨_, sq upd_same⟩, ?_⟩
        refine for_it (walk_list (K := K) (a := L) (xs := [.int (-1), .int (-50), .int (-100)])) (Pv := fun i σ H' => ∃ (z : Option V), σ = [some (.ref a), y, some (.ref C), z] ∧ Same H3 H' ∧ H' L = some (.lst [.int (-1), .int (-50), .int (-100)])) ⟨none, rfl, same_upd hL, upd_same⟩ (fun i σ H' _ h => by obtain ⟨_, _, _, e⟩ := h; exact sq e) (fun i x σ H4 H5 hi hp hy => ?_) (fun σ H4 hp => ?_)
        · obtain ⟨z, rfl, s4, hL4⟩ := hp
          obtain ⟨rfl, gx⟩ := hy
          have hint : ∃ c : Int, x = .int c := by
            rcases i with _ | _ | _ | i
            · simp at gx; exact ⟨_, gx.symm⟩
            · simp at gx; exact ⟨_, gx.symm⟩
            · simp at gx; exact ⟨_, gx.symm⟩
            · simp at gx
          obtain ⟨c, rfl⟩ := hint
          walk_at "rds"
          refine ⟨C, _, rfl, .inl (sq (s4 _ _ hl)), rfl, flat_ints _, ?_⟩
          walk_at "rds"
          refine ite2 (fun z => ?_) (fun z => ?_)
          · have z : (!inV (.int c) ((cs.map dClient).map V.int)) = true := z
            rw [inV_int] at z
            have nm : ∀ d ∈ cs, dClient d ≠ c := fun d m k => by
              rw [decide_eq_true (List.mem_map.mpr ⟨d, m, k⟩)] at z
              cases z
            walk_at "rds"
            refine ⟨_, e, p, h, c, cs, rfl, hd.on (sm.trans s4), hc, fun w hw => ?_⟩
            rw [found_none nm] at hw
            cases hw
            walk_at "rds"
            exact ⟨_, rfl, s4, hL4⟩
          · exact ⟨_, rfl, s4, hL4⟩
        · obtain ⟨z, rfl, s4, hL4⟩ := hp
          walk_at "rds"
          exact q _ (sm.trans s4)
def spChildren (K : PySem.W.Frag) : Sp := fun vs H Q _ => ∃ (v : V) (D A : Addr) (e p h : Int) (cs : List PyData), vs = [v, .ref D, .ref A] ∧ Dr H D A ∧ Dt K H A v (.tuple [.int e, .int p, .int h, .tuple cs]) ∧ dBlock (.tuple [.int e, .int p, .int h, .tuple cs]) = true ∧ e < 999999999991 ∧
  ∀ H', Mod A H H' → Dr H' D A → Q (.bl true) H'
theorem c__law_children {C_BadBlock : Addr} {C_LedgerError : Addr} {C_GENESIS : Addr} {C_GENESIS_3 : Addr} (T : Txt K mg C_BadBlock C_LedgerError C_GENESIS C_GENESIS_3) : Cal P w K mg base 7 "_law_children" (spChildren K) [] := by
  have c__law_next := c__law_next (P := P) (w := w) (base := base) T
  have c__law_truth := c__law_truth (P := P) (w := w) (base := base) T
  refine cal T.d__law_children sc__law_children (fun vs H Q E h => ?_) (fun f cdv A' outer s H vs Q E hr h => ?_)
  · obtain ⟨v, D, A, e, p, h, cs, rfl, _⟩ := h; rfl
  obtain ⟨v, D, A, e, p, h, cs, rfl, dr, hd, hb, he, q⟩ := h
  have c_follows := c_follows (P := P) (w := w) (base := base) T A
  refine ⟨_, (pss_cons (ps_set (i := 3) sc__law_children.nd rfl (Or.inl rfl) (pe_op op_add (pe_op op_add (pe_ix (kixt (K := K)) (pv 0) pe_int (fun _ _ => rfl)) pe_int) (pe_c c__law_next hr (by decide) (by rfl) (pa_cons (pv 1) (pa_cons (pv 2) (pa_cons pe_int pa_nil))))))
      (pss_cons (ps_set (i := 4) sc__law_children.nd rfl (Or.inl rfl) (pe_tup (pa_cons (pv 3) (pa_cons (pe_ix (kixt (K := K)) (pv 0) pe_int (fun _ _ => rfl)) (pa_cons (pe_op op_add (pe_ix (kixt (K := K)) (pv 0) pe_int (fun _ _ => rfl)) pe_int) (pa_cons (pe_tup pa_nil) pa_nil))))))
      (pss_cons (ps_if (PW.pt (pw_or (pt_not (pt_val (pe_c c__law_truth hr (by decide) (by rfl) (pa_cons (pe_c c_follows hr (by decide) (by rfl) (pa_cons (pv 4) (pa_cons (pv 0) pa_nil))) (pa_cons pe_bl pa_nil))))) (pw_or1 (pt_not (pt_val (pe_c c__law_truth hr (by decide) (by rfl) (pa_cons (pe_c c_follows hr (by decide) (by rfl) (pa_cons (pv 0) (pa_cons (pv 4) pa_nil))) (pa_cons pe_bl pa_nil)))))))) (pss_one (ps_ret pe_bl)) pss_nil)
      (pss_cons (ps_if (PW.pt (pw_and (pt_cmpR op_lt (pe_ix (kixt (K := K)) (pv 0) pe_int (fun _ _ => rfl)) (pe_ix (kixt (K := K)) (pv 0) pe_int (fun _ _ => rfl)) (nomark _)) (pw_and1 (pt_not (pt_val (pe_c c__law_truth hr (by decide) (by rfl) (pa_cons (pe_c c_follows hr (by decide) (by rfl) (pa_cons (pe_tup (pa_cons (pv 3) (pa_cons (pe_ix (kixt (K := K)) (pv 0) pe_int (fun _ _ => rfl)) (pa_cons (pe_op op_add (pe_ix (kixt (K := K)) (pv 0) pe_int (fun _ _ => rfl)) pe_int) (pa_cons (pe_tup pa_nil) pa_nil))))) (pa_cons (pv 0) pa_nil))) (pa_cons pe_bl pa_nil)))))))) (pss_one (ps_ret pe_bl)) pss_nil)
      (pss_one (ps_ret (pe_c c__law_truth hr (by decide) (by rfl) (pa_cons (pe_c c_follows hr (by decide) (by rfl) (pa_cons (pe_tup (pa_cons (pe_op op_add (pv 3) pe_int) (pa_cons (pv 3) (pa_cons pe_int (pa_cons (pe_tup pa_nil) pa_nil))))) (pa_cons (pv 0) pa_nil))) (pa_cons pe_bl pa_nil))))))))), ?_⟩
  obtain ⟨a, x1, x2, x3, x4, rfl, ha, h1, h2, h3, h4⟩ := id hd.quad
  cases h1; cases h2; cases h3
  have hb : (dInt 1 1000000000000 (.int e) && dInt 0 (e - 1) (.int p) && dHeight p (.int h) && dCmdsFrom none cs) = true := hb
  walk_at "rds"
  rw [Bool.and_eq_true, Bool.and_eq_true, Bool.and_eq_true] at hb
  obtain ⟨⟨⟨b1, b2⟩, b3⟩, b4⟩ := hb
  have b1 : 1 ≤ e ∧ e ≤ 1000000000000 := of_decide_eq_true b1
  have b2 : 0 ≤ p ∧ p ≤ e - 1 := of_decide_eq_true b2
  have b3 : 1 ≤ h ∧ h ≤ p + 1 := by
    unfold dHeight at b3
    split at b3
    · have b3 : 1 ≤ h ∧ h ≤ 1 := of_decide_eq_true b3; omega
    · have b3 : 2 ≤ h ∧ h ≤ p + 1 := of_decide_eq_true b3; omega
  refine ⟨a, _, 0, _, rfl, rfl, ha.sq, atI_nat rfl, ?_⟩
  walk_at "rds"
  refine ⟨D, A, 3, rfl, dr, by decide, fun H1 r r0 r1 md1 dr1 => ?_⟩
  walk_at "rds"
  have ha1 := ha.tp (md1.tp dr)
  refine ⟨a, _, 0, _, rfl, rfl, ha1.sq, atI_nat rfl, ?_⟩
  walk_at "rds"
  refine ⟨a, _, 2, _, rfl, rfl, ha1.sq, atI_nat rfl, ?_⟩
  walk_at "rds"
  intro t0 ht0
  walk_at "rds"
  intro t1 ht1
  walk_at "rds"
  have nB : noL (.tuple [.int e, .int p, .int h, .tuple cs]) = true := by
    show (true && (true && (true && (noLs cs && true)))) = true
    rw [dCmdsFrom_noL b4]; rfl
  have F1 : dFollows (.tuple [.int (e + 1 + r), .int e, .int (h + 1), .tuple []]) (.tuple [.int e, .int p, .int h, .tuple cs]) = true := by
    have c1 : dCmds (.tuple []) = true := rfl
    have c2 : dHeight e (.int (h + 1)) = true := by
      unfold dHeight; rw [if_neg (by omega)]; exact decide_eq_true (by omega)
    have c3 : dBlock (.tuple [.int (e + 1 + r), .int e, .int (h + 1), .tuple []]) = true := by
      show (decide (1 ≤ e + 1 + r ∧ e + 1 + r ≤ 1000000000000) && decide (0 ≤ e ∧ e ≤ e + 1 + r - 1) && dHeight e (.int (h + 1)) && dCmds (.tuple [])) = true
      rw [c1, c2, decide_eq_true (by omega), decide_eq_true (by omega)]; rfl
    show (dBlock (.tuple [.int (e + 1 + r), .int e, .int (h + 1), .tuple []]) && (dBlock (.tuple [.int e, .int p, .int h, .tuple cs]) || _) && (decide (e = e) && decide (h + 1 = h + 1))) = true
    rw [c3, hb, decide_eq_true rfl, decide_eq_true rfl]; rfl
  have F2 : dFollows (.tuple [.int e, .int p, .int h, .tuple cs]) (.tuple [.int (e + 1 + r), .int e, .int (h + 1), .tuple []]) = false := by
    show (_ && (decide (p = e + 1 + r) && _)) = false
    rw [decide_eq_false (by omega), Bool.false_and, Bool.and_false]
  have F3 : dFollows (.tuple [.int (e + 1 + r), .int e, .int (h + 2), .tuple []]) (.tuple [.int e, .int p, .int h, .tuple cs]) = false := by
    show (_ && (_ && decide (h + 2 = h + 1))) = false
    rw [show decide (h + 2 = h + 1) = false from decide_eq_false (by omega), Bool.and_false, Bool.and_false]
  have F4 : dFollows (.tuple [.int (e + 1 + r + 2), .int (e + 1 + r), .int 2, .tuple []]) (.tuple [.int e, .int p, .int h, .tuple cs]) = false := by
    show (_ && (decide (e + 1 + r = e) && _)) = false
    rw [decide_eq_false (by omega), Bool.false_and, Bool.and_false]
  have sT := (same_upd (o := .tup []) ht0).trans (same_upd (o := .tup [.int (e + 1 + r), .int e, .int (h + 1), .ref t0]) ht1)
  have hdc : Dt K (upd (upd H1 t0 (.tup [])) t1 (.tup [.int (e + 1 + r), .int e, .int (h + 1), .ref t0])) A (.ref t1) (.tuple [.int (e + 1 + r), .int e, .int (h + 1), .tuple []]) := .tup (.inl upd_same) (.cons (.int _) (.cons (.int _) (.cons (.int _) (.cons (.tup (.inl (same_upd ht1 _ _ upd_same)) .nil) .nil))))
  have hd1 := hd.by md1 dr
  refine ⟨_, _, _, _, rfl, hdc, hd1.on sT, fun H3 s3 => ?_⟩
  walk_at "rds"
  refine ⟨_, _, rfl, ?_⟩
  rw [F1]
  walk_at "rds"
  refine ⟨_, _, _, _, rfl, (hd1.on sT).on s3, hdc.on s3, fun H4 s4 => ?_⟩
  walk_at "rds"
  refine ⟨_, _, rfl, ?_⟩
  rw [F2]
  walk_at "rds"
  have sC := (sT.trans s3).trans s4
  have haC := ha1.same sC
  have hdC := hd1.on sC
  refine ⟨a, _, 2, _, rfl, rfl, haC.sq, atI_nat rfl, ?_⟩
  walk_at "rds"
  refine ⟨a, _, 0, _, rfl, rfl, haC.sq, atI_nat rfl, ?_⟩
  walk_at "rds"
  refine ite2 (fun _ => ?_) (fun _ => ?_)
  · walk_at "rds"
    refine ⟨a, _, 0, _, rfl, rfl, haC.sq, atI_nat rfl, ?_⟩
    walk_at "rds"
    refine ⟨a, _, 2, _, rfl, rfl, haC.sq, atI_nat rfl, ?_⟩
    walk_at "rds"
    intro v0 hv0
    walk_at "rds"
    intro v1 hv1
    walk_at "rds"
    have sV := (same_upd (o := .tup []) hv0).trans (same_upd (o := .tup [.int (e + 1 + r), .int e, .int (h + 2), .ref v0]) hv1)
    refine ⟨_, _, .tuple [.int (e + 1 + r), .int e, .int (h + 2), .tuple []], _, rfl, .tup (.inl upd_same) (.cons (.int _) (.cons (.int _) (.cons (.int _) (.cons (.tup (.inl (same_upd hv1 _ _ upd_same)) .nil) .nil)))), hdC.on sV, fun H5 s5 => ?_⟩
    walk_at "rds"
    refine ⟨_, _, rfl, ?_⟩
    rw [F3]
    walk_at "rds"
    have hdC := (hdC.on sV).on s5
    have sC := (sC.trans sV).trans s5
    walk_at "rds"
    intro u0 hu0
    walk_at "rds"
    intro u1 hu1
    walk_at "rds"
    have sU := (same_upd (o := .tup []) hu0).trans (same_upd (o := .tup [.int (e + 1 + r + 2), .int (e + 1 + r), .int 2, .ref u0]) hu1)
    have hdu := hdC.on sU
    refine ⟨_, _, .tuple [.int (e + 1 + r + 2), .int (e + 1 + r), .int 2, .tuple []], _, rfl, .tup (.inl upd_same) (.cons (.int _) (.cons (.int _) (.cons (.int _) (.cons (.tup (.inl (same_upd hu1 _ _ upd_same)) .nil) .nil)))), hdu, fun H5 s5 => ?_⟩
    walk_at "rds"
    refine ⟨_, _, rfl, ?_⟩
    rw [F4]
    rw [show decide (V.bl false = V.bl false) = true from decide_eq_true rfl]
    exact q _ (md1.trans (Same.mod (sC.trans (sU.trans s5)))) (dr1.same (sC.trans (sU.trans s5)))

  · walk_at "rds"
    intro u0 hu0
    walk_at "rds"
    intro u1 hu1
    walk_at "rds"
    have sU := (same_upd (o := .tup []) hu0).trans (same_upd (o := .tup [.int (e + 1 + r + 2), .int (e + 1 + r), .int 2, .ref u0]) hu1)
    have hdu := hdC.on sU
    refine ⟨_, _, .tuple [.int (e + 1 + r + 2), .int (e + 1 + r), .int 2, .tuple []], _, rfl, .tup (.inl upd_same) (.cons (.int _) (.cons (.int _) (.cons (.int _) (.cons (.tup (.inl (same_upd hu1 _ _ upd_same)) .nil) .nil)))), hdu, fun H5 s5 => ?_⟩
    walk_at "rds"
    refine ⟨_, _, rfl, ?_⟩
    rw [F4]
    rw [show decide (V.bl false = V.bl false) = true from decide_eq_true rfl]
    exact q _ (md1.trans (Same.mod (sC.trans (sU.trans s5)))) (dr1.same (sC.trans (sU.trans s5)))
end

section
variable {P : Program} {w : World} {K : PySem.W.Frag} {mg : Str → Option Value} {base : Heap}
theorem dInt_no {lo hi i : Int} (h : ¬ (lo ≤ i ∧ i ≤ hi)) : dInt lo hi (.int i) = false := decide_eq_false h
theorem dBlock4_h {e p : Int} {h cs : PyData} (z : dHeight p h = false) : dBlock4 (.int e) (.int p) h cs = false := by
  show (_ && _ && dHeight p h && dCmds cs) = false
  rw [z, Bool.and_false, Bool.false_and]
theorem dBlock4_c {e p : Int} {h cs : PyData} (z : dCmds cs = false) : dBlock4 (.int e) (.int p) h cs = false := by
  show (_ && _ && dHeight p h && dCmds cs) = false
  rw [z, Bool.and_false]
theorem catA_bad {K : PySem.W.Frag} {A : Option Addr} {b u t : Addr} {Hc : Hp} {xs : List V} {cs : List PyData} {d : PyData} {Q : VK} (hb : TupAt K Hc b xs) (hx : DtAll K Hc A xs cs) (hu : Hc u = some (.tup [.ref t])) (ht : Dt K Hc A (.ref t) d) (hlen : cs.length ≤ 100)
    (h : ∀ y G, Same Hc G → Dt K G A y (.tuple (cs ++ [d])) → Q y G) : rCatA K (.ref b) (.ref u) Hc Q := by
  refine ⟨b, u, xs, [.ref t], rfl, rfl, hb.sq, SqT.of hu, by rw [hx.length]; exact sz1000 (by simp; omega), fun e => ?_, (fun _ e => nomatch e), fun _ _ v hv => ?_⟩
  · subst e
    cases hx
    exact h _ _ (Same.refl _) (.tup (.inl hu) (.cons ht .nil))
  · exact h _ _ (same_upd hv) (.tup (.inl upd_same) ((hx.snoc ht).on (same_upd hv)))
def spBad (K : PySem.W.Frag) : Sp := fun vs H Q _ => ∃ (v : V) (D A : Addr) (e p h : Int) (cs : List PyData), vs = [v, .ref D, .ref A] ∧ Dr H D A ∧ Dt K H A v (.tuple [.int e, .int p, .int h, .tuple cs]) ∧ dBlock (.tuple [.int e, .int p, .int h, .tuple cs]) = true ∧ cs.length ≤ 100 ∧
  ∀ (H' : Hp) (x : V) (d : PyData), Mod A H H' → Dr H' D A → Dt K H' A x d → dBlock d = false → Q x H'
theorem c__law_bad_block {C_BadBlock : Addr} {C_LedgerError : Addr} {C_GENESIS : Addr} {C_GENESIS_3 : Addr} (T : Txt K mg C_BadBlock C_LedgerError C_GENESIS C_GENESIS_3) : Cal P w K mg base 2 "_law_bad_block" (spBad K) [] := by
  have c__law_next := c__law_next (P := P) (w := w) (base := base) T
  refine cal T.d__law_bad_block sc__law_bad_block (fun vs H Q E h => ?_) (fun f cdv A' outer s H vs Q E hr h => ?_)
  · obtain ⟨v, D, A, e, p, h, cs, rfl, _⟩ := h; rfl
  obtain ⟨v, D, A, e, p, h, cs, rfl, dr, hd, hb, hlen, q⟩ := h
  refine ⟨_, (pss_cons (ps_set (i := 3) sc__law_bad_block.nd rfl (Or.inl rfl) (pe_ix (kixt (K := K)) (pv 0) pe_int (fun _ _ => rfl)))
      (pss_cons (ps_set (i := 4) sc__law_bad_block.nd rfl (Or.inl rfl) (pe_ix (kixt (K := K)) (pv 0) pe_int (fun _ _ => rfl)))
      (pss_cons (ps_set (i := 5) sc__law_bad_block.nd rfl (Or.inl rfl) (pe_ix (kixt (K := K)) (pv 0) pe_int (fun _ _ => rfl)))
      (pss_cons (ps_set (i := 6) sc__law_bad_block.nd rfl (Or.inl rfl) (pe_c c__law_next hr (by decide) (by rfl) (pa_cons (pv 1) (pa_cons (pv 2) (pa_cons pe_int pa_nil)))))
      (pss_cons (ps_set (i := 7) sc__law_bad_block.nd rfl (Or.inl rfl) (pe_lst (pa_cons (pe_tup (pa_cons pe_int (pa_cons pe_int (pa_cons pe_int (pa_cons (pe_tup pa_nil) pa_nil))))) (pa_cons (pe_tup (pa_cons (pv 4) (pa_cons (pv 4) (pa_cons (pv 5) (pa_cons (pe_ix (kixt (K := K)) (pv 0) pe_int (fun _ _ => rfl)) pa_nil))))) (pa_cons (pe_tup (pa_cons (pv 3) (pa_cons (pv 3) (pa_cons (pe_callB (call_max2 rfl) (by rfl) T.z_max (by decide +kernel) (pa_cons pe_int (pa_cons (pv 5) pa_nil))) (pa_cons (pe_ix (kixt (K := K)) (pv 0) pe_int (fun _ _ => rfl)) pa_nil))))) pa_nil)))))
      (pss_cons (ps_set (i := 7) sc__law_bad_block.nd rfl (Or.inl rfl) (pe_op op_cat (pv 7) (pe_lst (pa_cons (pe_tup (pa_cons (pv 3) (pa_cons (pe_un un_neg pe_int) (pa_cons (pv 5) (pa_cons (pe_ix (kixt (K := K)) (pv 0) pe_int (fun _ _ => rfl)) pa_nil))))) (pa_cons (pe_tup (pa_cons (pv 3) (pa_cons (pv 4) (pa_cons pe_int (pa_cons (pe_ix (kixt (K := K)) (pv 0) pe_int (fun _ _ => rfl)) pa_nil))))) (pa_cons (pe_tup (pa_cons (pv 3) (pa_cons (pv 4) (pa_cons (pe_op op_add (pv 4) pe_int) (pa_cons (pe_ix (kixt (K := K)) (pv 0) pe_int (fun _ _ => rfl)) pa_nil))))) pa_nil))))))
      (pss_cons (ps_set (i := 7) sc__law_bad_block.nd rfl (Or.inl rfl) (pe_op op_cat (pv 7) (pe_lst (pa_cons (pe_tup (pa_cons (pe_op op_add (pe_op op_pow pe_int pe_int) pe_int) (pa_cons (pv 4) (pa_cons (pv 5) (pa_cons (pe_ix (kixt (K := K)) (pv 0) pe_int (fun _ _ => rfl)) pa_nil))))) (pa_cons (pe_lst (pa_cons (pv 3) (pa_cons (pv 4) (pa_cons (pv 5) (pa_cons (pe_ix (kixt (K := K)) (pv 0) pe_int (fun _ _ => rfl)) pa_nil))))) (pa_cons (pe_op op_catT (pv 0) (pe_tup (pa_cons pe_int pa_nil))) pa_nil))))))
      (pss_cons (ps_set (i := 7) sc__law_bad_block.nd rfl (Or.inl rfl) (pe_op op_cat (pv 7) (pe_lst (pa_cons (pe_slice sl_tup (pv 0) po_none (po_some pe_int)) (pa_cons (pe_tup (pa_cons (pv 3) (pa_cons (pv 4) (pa_cons (pv 5) (pa_cons (pe_callTy call_list_of (by rfl) T.z_list (by decide +kernel) (pa_cons (pe_ix (kixt (K := K)) (pv 0) pe_int (fun _ _ => rfl)) pa_nil)) pa_nil))))) (pa_cons (pe_tup (pa_cons (pv 3) (pa_cons (pv 4) (pa_cons (pv 5) (pa_cons (pe_op op_catA (pe_ix (kixt (K := K)) (pv 0) pe_int (fun _ _ => rfl)) (pe_tup (pa_cons (pe_tup (pa_cons (pe_un un_neg pe_int) (pa_cons pe_int (pa_cons pe_str pa_nil)))) pa_nil))) pa_nil))))) pa_nil))))))
      (pss_cons (ps_set (i := 7) sc__law_bad_block.nd rfl (Or.inl rfl) (pe_op op_cat (pv 7) (pe_lst (pa_cons (pe_tup (pa_cons pe_bl (pa_cons pe_int (pa_cons pe_int (pa_cons (pe_ix (kixt (K := K)) (pv 0) pe_int (fun _ _ => rfl)) pa_nil))))) (pa_cons (pe_tup (pa_cons (pv 3) (pa_cons (pv 4) (pa_cons pe_bl (pa_cons (pe_ix (kixt (K := K)) (pv 0) pe_int (fun _ _ => rfl)) pa_nil))))) pa_nil)))))
      (pss_cons (ps_if (PW.pt (pw_and (pt_cmpR op_eq (pv 6) pe_int (nomark _)) (pw_and1 (pt_cmpR op_eq (pv 4) pe_int (nomark _))))) (pss_one (ps_ret (pe_ix (kixl (K := K)) (pv 7) pe_int (fun _ _ => rfl)))) pss_nil)
      (pss_one (ps_ret (pe_ix (kixl (K := K)) (pv 7) (pv 6) (fun _ _ => rfl)))))))))))))), ?_⟩
  obtain ⟨a, x1, x2, x3, x4, rfl, ha, h1, h2, h3, h4⟩ := id hd.quad
  cases h1; cases h2; cases h3
  walk_at "rds"
  refine ⟨a, _, 0, _, rfl, rfl, ha.sq, atI_nat rfl, ?_⟩
  walk_at "rds"
  refine ⟨a, _, 1, _, rfl, rfl, ha.sq, atI_nat rfl, ?_⟩
  walk_at "rds"
  refine ⟨a, _, 2, _, rfl, rfl, ha.sq, atI_nat rfl, ?_⟩
  walk_at "rds"
  refine ⟨D, A, 14, rfl, dr, by decide, fun H1 r r0 r1 md1 dr1 => ?_⟩
  have ha := ha.tp (md1.tp dr)
  have h4m := h4.by md1 dr
  obtain ⟨b, xs, rfl, hbx, hxs⟩ : ∃ b xs, x4 = .ref b ∧ TupAt K H1 b xs ∧ DtAll K H1 A xs cs := by
    cases h4m with
    | tup hb hx => exact ⟨_, _, rfl, hb, hx⟩
  have drc := dr1
  have sm := Same.refl H1
  have acc : DtAll K H1 (some A) [] [] := .nil
  have key : ∀ {G : Hp} {a : Addr} {o : HO}, Same H1 (upd G a o) → (upd G a o) a = some o := fun _ => upd_same
  walk_at "rds"
  intro t0 ht0
  have s1 := same_upd (o := .tup []) ht0
  have fA := drc.freshA ht0
  have drc := drc.same s1
  have sm := sm.trans s1
  have acc := acc.on s1
  have ht0 := key (a := t0) (o := .tup []) sm
  walk_at "rds"
  intro p0 hp0
  have s1 := same_upd (o := .tup [.int 0, .int 0, .int 0, .ref t0]) hp0
  have fA := drc.freshA hp0
  have drc := drc.same s1
  have sm := sm.trans s1
  have acc := acc.on s1
  have ht0 := s1 _ _ ht0
  have acc := acc.snoc (d := .tuple [.int 0, .int 0, .int 0, .tuple []]) (.tup (.inl upd_same) (.cons (.int _) (.cons (.int _) (.cons (.int _) (.cons (.tup (.inl ht0) .nil) .nil)))))
  walk_at "rds"
  refine ⟨a, _, 3, _, rfl, rfl, (ha.same sm).sq, atI_nat rfl, ?_⟩
  walk_at "rds"
  intro p1 hp1
  have s1 := same_upd (o := .tup [.int (p), .int (p), .int (h), .ref b]) hp1
  have fA := drc.freshA hp1
  have drc := drc.same s1
  have sm := sm.trans s1
  have acc := acc.on s1
  have acc := acc.snoc (d := .tuple [.int (p), .int (p), .int (h), .tuple cs]) (.tup (.inl upd_same) (.cons (.int _) (.cons (.int _) (.cons (.int _) (.cons (h4m.on sm) .nil)))))
  walk_at "rds"
  refine ⟨_, _, rfl, ?_⟩
  generalize (if h > 2 then h else 2) = mx
  walk_at "rds"
  refine ⟨a, _, 3, _, rfl, rfl, (ha.same sm).sq, atI_nat rfl, ?_⟩
  walk_at "rds"
  intro p2 hp2
  have s1 := same_upd (o := .tup [.int (e), .int (e), .int (mx), .ref b]) hp2
  have fA := drc.freshA hp2
  have drc := drc.same s1
  have sm := sm.trans s1
  have acc := acc.on s1
  have acc := acc.snoc (d := .tuple [.int (e), .int (e), .int (mx), .tuple cs]) (.tup (.inl upd_same) (.cons (.int _) (.cons (.int _) (.cons (.int _) (.cons (h4m.on sm) .nil)))))
  walk_at "rds"
  intro l0 hl0
  have s1 := same_upd (o := .lst [.ref p0, .ref p1, .ref p2]) hl0
  have fA := drc.freshA hl0
  have drc := drc.same s1
  have sm := sm.trans s1
  have acc := acc.on s1
  have hl0 := key (a := l0) (o := .lst [.ref p0, .ref p1, .ref p2]) sm
  walk_at "rds"
  refine ⟨a, _, 3, _, rfl, rfl, (ha.same sm).sq, atI_nat rfl, ?_⟩
  walk_at "rds"
  intro p3 hp3
  have s1 := same_upd (o := .tup [.int (e), .int (-1), .int (h), .ref b]) hp3
  have fA := drc.freshA hp3
  have drc := drc.same s1
  have sm := sm.trans s1
  have acc := acc.on s1
  have hl0 := s1 _ _ hl0
  have acc := acc.snoc (d := .tuple [.int (e), .int (-1), .int (h), .tuple cs]) (.tup (.inl upd_same) (.cons (.int _) (.cons (.int _) (.cons (.int _) (.cons (h4m.on sm) .nil)))))
  walk_at "rds"
  refine ⟨a, _, 3, _, rfl, rfl, (ha.same sm).sq, atI_nat rfl, ?_⟩
  walk_at "rds"
  intro p4 hp4
  have s1 := same_upd (o := .tup [.int (e), .int (p), .int (0), .ref b]) hp4
  have fA := drc.freshA hp4
  have drc := drc.same s1
  have sm := sm.trans s1
  have acc := acc.on s1
  have hl0 := s1 _ _ hl0
  have acc := acc.snoc (d := .tuple [.int (e), .int (p), .int (0), .tuple cs]) (.tup (.inl upd_same) (.cons (.int _) (.cons (.int _) (.cons (.int _) (.cons (h4m.on sm) .nil)))))
  walk_at "rds"
  refine ⟨a, _, 3, _, rfl, rfl, (ha.same sm).sq, atI_nat rfl, ?_⟩
  walk_at "rds"
  intro p5 hp5
  have s1 := same_upd (o := .tup [.int (e), .int (p), .int (p + 2), .ref b]) hp5
  have fA := drc.freshA hp5
  have drc := drc.same s1
  have sm := sm.trans s1
  have acc := acc.on s1
  have hl0 := s1 _ _ hl0
  have acc := acc.snoc (d := .tuple [.int (e), .int (p), .int (p + 2), .tuple cs]) (.tup (.inl upd_same) (.cons (.int _) (.cons (.int _) (.cons (.int _) (.cons (h4m.on sm) .nil)))))
  walk_at "rds"
  intro l1 hl1
  have s1 := same_upd (o := .lst [.ref p3, .ref p4, .ref p5]) hl1
  have fA := drc.freshA hl1
  have drc := drc.same s1
  have sm := sm.trans s1
  have acc := acc.on s1
  have hl0 := s1 _ _ hl0
  have hl1 := key (a := l1) (o := .lst [.ref p3, .ref p4, .ref p5]) sm
  walk_at "rds"
  refine ⟨l0, l1, _, _, rfl, rfl, hl0, hl1, sz1000 (Nat.le_of_ble_eq_true rfl), ?_⟩
  walk_at "rds"
  intro w1 hw1
  have s1 := same_upd (o := .lst [.ref p0, .ref p1, .ref p2, .ref p3, .ref p4, .ref p5]) hw1
  have fA := drc.freshA hw1
  have drc := drc.same s1
  have sm := sm.trans s1
  have acc := acc.on s1
  have hl0 := s1 _ _ hl0
  have hl1 := s1 _ _ hl1
  have hw1 := key (a := w1) (o := .lst [.ref p0, .ref p1, .ref p2, .ref p3, .ref p4, .ref p5]) sm
  walk_at "rds"
  refine ⟨a, _, 3, _, rfl, rfl, (ha.same sm).sq, atI_nat rfl, ?_⟩
  walk_at "rds"
  intro p6 hp6
  have s1 := same_upd (o := .tup [.int (1000000000001), .int (p), .int (h), .ref b]) hp6
  have fA := drc.freshA hp6
  have drc := drc.same s1
  have sm := sm.trans s1
  have acc := acc.on s1
  have hw1 := s1 _ _ hw1
  have acc := acc.snoc (d := .tuple [.int (1000000000001), .int (p), .int (h), .tuple cs]) (.tup (.inl upd_same) (.cons (.int _) (.cons (.int _) (.cons (.int _) (.cons (h4m.on sm) .nil)))))
  walk_at "rds"
  refine ⟨a, _, 3, _, rfl, rfl, (ha.same sm).sq, atI_nat rfl, ?_⟩
  walk_at "rds"
  intro p7 hp7
  have s1 := same_upd (o := .lst [.int e, .int p, .int h, .ref b]) hp7
  have fA := drc.freshA hp7
  have drc := drc.same s1
  have sm := sm.trans s1
  have acc := acc.on s1
  have hw1 := s1 _ _ hw1
  have acc := acc.snoc (d := .list [.int e, .int p, .int h, .tuple cs]) (.lst fA upd_same (.cons (.int _) (.cons (.int _) (.cons (.int _) (.cons (h4m.on sm) .nil)))))
  walk_at "rds"
  intro t8 ht8
  have s1 := same_upd (o := .tup [.int 1]) ht8
  have fA := drc.freshA ht8
  have drc := drc.same s1
  have sm := sm.trans s1
  have acc := acc.on s1
  have hw1 := s1 _ _ hw1
  have ht8 := key (a := t8) (o := .tup [.int 1]) sm
  walk_at "rds"
  refine ⟨a, t8, _, _, rfl, rfl, (ha.same sm).sq, SqT.of ht8, (fun z => nomatch z), sz1000 (Nat.le_of_ble_eq_true rfl), (fun z => nomatch z), fun _ p8 hp8 => ?_⟩
  have s1 := same_upd (o := .tup [.int (e), .int (p), .int (h), .ref b, .int (1)]) hp8
  have fA := drc.freshA hp8
  have drc := drc.same s1
  have sm := sm.trans s1
  have acc := acc.on s1
  have hw1 := s1 _ _ hw1
  have acc := acc.snoc (d := .tuple [.int (e), .int (p), .int (h), .tuple cs, .int (1)]) (.tup (.inl upd_same) (.cons (.int _) (.cons (.int _) (.cons (.int _) (.cons (h4m.on sm) (.cons (.int _) .nil))))))
  walk_at "rds"
  intro l2 hl2
  have s1 := same_upd (o := .lst [.ref p6, .ref p7, .ref p8]) hl2
  have fA := drc.freshA hl2
  have drc := drc.same s1
  have sm := sm.trans s1
  have acc := acc.on s1
  have hw1 := s1 _ _ hw1
  have hl2 := key (a := l2) (o := .lst [.ref p6, .ref p7, .ref p8]) sm
  walk_at "rds"
  refine ⟨w1, l2, _, _, rfl, rfl, hw1, hl2, sz1000 (Nat.le_of_ble_eq_true rfl), ?_⟩
  walk_at "rds"
  intro w2 hw2
  have s1 := same_upd (o := .lst [.ref p0, .ref p1, .ref p2, .ref p3, .ref p4, .ref p5, .ref p6, .ref p7, .ref p8]) hw2
  have fA := drc.freshA hw2
  have drc := drc.same s1
  have sm := sm.trans s1
  have acc := acc.on s1
  have hw1 := s1 _ _ hw1
  have hl2 := s1 _ _ hl2
  have hw2 := key (a := w2) (o := .lst [.ref p0, .ref p1, .ref p2, .ref p3, .ref p4, .ref p5, .ref p6, .ref p7, .ref p8]) sm
  walk_at "rds"
  refine ⟨a, _, rfl, (ha.same sm).sq, (fun z => absurd (show (3 : Nat) = 4 from z.2) (by decide)), fun p9 hp9 => ?_⟩
  have s1 := same_upd (o := .tup [.int (e), .int (p), .int (h)]) hp9
  have fA := drc.freshA hp9
  have drc := drc.same s1
  have sm := sm.trans s1
  have acc := acc.on s1
  have hw2 := s1 _ _ hw2
  have acc := acc.snoc (d := .tuple [.int (e), .int (p), .int (h)]) (.tup (.inl upd_same) (.cons (.int _) (.cons (.int _) (.cons (.int _) .nil))))
  walk_at "rds"
  refine ⟨a, _, 3, _, rfl, rfl, (ha.same sm).sq, atI_nat rfl, ?_⟩
  refine ⟨b, xs, rfl, .inr (hbx.same sm).sq, fun t10 ht10 => ?_⟩
  have s1 := same_upd (o := .lst xs) ht10
  have fA := drc.freshA ht10
  have drc := drc.same s1
  have sm := sm.trans s1
  have acc := acc.on s1
  have hw2 := s1 _ _ hw2
  have ft := fA
  have ht10 := key (a := t10) (o := .lst xs) sm
  walk_at "rds"
  intro p10 hp10
  have s1 := same_upd (o := .tup [.int (e), .int (p), .int (h), .ref t10]) hp10
  have fA := drc.freshA hp10
  have drc := drc.same s1
  have sm := sm.trans s1
  have acc := acc.on s1
  have hw2 := s1 _ _ hw2
  have ht10 := s1 _ _ ht10
  have acc := acc.snoc (d := .tuple [.int (e), .int (p), .int (h), .list cs]) (.tup (.inl upd_same) (.cons (.int _) (.cons (.int _) (.cons (.int _) (.cons (.lst ft ht10 (hxs.on sm)) .nil)))))
  walk_at "rds"
  refine ⟨a, _, 3, _, rfl, rfl, (ha.same sm).sq, atI_nat rfl, ?_⟩
  walk_at "rds"
  intro t11 ht11
  have s1 := same_upd (o := .tup [.int (-1), .int 0, .str ""]) ht11
  have fA := drc.freshA ht11
  have drc := drc.same s1
  have sm := sm.trans s1
  have acc := acc.on s1
  have hw2 := s1 _ _ hw2
  have ht11 := key (a := t11) (o := .tup [.int (-1), .int 0, .str ""]) sm
  walk_at "rds"
  intro u11 hu11
  have s1 := same_upd (o := .tup [.ref t11]) hu11
  have fA := drc.freshA hu11
  have drc := drc.same s1
  have sm := sm.trans s1
  have acc := acc.on s1
  have hw2 := s1 _ _ hw2
  have ht11 := s1 _ _ ht11
  have hu11 := key (a := u11) (o := .tup [.ref t11]) sm
  walk_at "rds"
  refine catA_bad (K := K) (A := some A) (d := .tuple [.int (-1), .int 0, .str ""]) (hbx.same sm) (hxs.on sm) hu11 (.tup (.inl ht11) (.cons (.int _) (.cons (.int _) (.cons (.str _ (by decide)) .nil)))) hlen (fun y11 G s1 hy11 => ?_)
  have drc := drc.same s1
  have sm := sm.trans s1
  have acc := acc.on s1
  have hw2 := s1 _ _ hw2
  walk_at "rds"
  intro p11 hp11
  have s1 := same_upd (o := .tup [.int e, .int p, .int h, y11]) hp11
  have fA := drc.freshA hp11
  have drc := drc.same s1
  have sm := sm.trans s1
  have acc := acc.on s1
  have hw2 := s1 _ _ hw2
  have acc := acc.snoc (d := .tuple [.int e, .int p, .int h, .tuple (cs ++ [.tuple [.int (-1), .int 0, .str ""]])]) (.tup (.inl upd_same) (.cons (.int _) (.cons (.int _) (.cons (.int _) (.cons (hy11.on s1) .nil)))))
  walk_at "rds"
  intro l3 hl3
  have s1 := same_upd (o := .lst [.ref p9, .ref p10, .ref p11]) hl3
  have fA := drc.freshA hl3
  have drc := drc.same s1
  have sm := sm.trans s1
  have acc := acc.on s1
  have hw2 := s1 _ _ hw2
  have hl3 := key (a := l3) (o := .lst [.ref p9, .ref p10, .ref p11]) sm
  walk_at "rds"
  refine ⟨w2, l3, _, _, rfl, rfl, hw2, hl3, sz1000 (Nat.le_of_ble_eq_true rfl), ?_⟩
  walk_at "rds"
  intro w3 hw3
  have s1 := same_upd (o := .lst [.ref p0, .ref p1, .ref p2, .ref p3, .ref p4, .ref p5, .ref p6, .ref p7, .ref p8, .ref p9, .ref p10, .ref p11]) hw3
  have fA := drc.freshA hw3
  have drc := drc.same s1
  have sm := sm.trans s1
  have acc := acc.on s1
  have hw2 := s1 _ _ hw2
  have hl3 := s1 _ _ hl3
  have hw3 := key (a := w3) (o := .lst [.ref p0, .ref p1, .ref p2, .ref p3, .ref p4, .ref p5, .ref p6, .ref p7, .ref p8, .ref p9, .ref p10, .ref p11]) sm
  walk_at "rds"
  refine ⟨a, _, 3, _, rfl, rfl, (ha.same sm).sq, atI_nat rfl, ?_⟩
  walk_at "rds"
  intro p12 hp12
  have s1 := same_upd (o := .tup [.bl true, .int 0, .int 1, .ref b]) hp12
  have fA := drc.freshA hp12
  have drc := drc.same s1
  have sm := sm.trans s1
  have acc := acc.on s1
  have hw3 := s1 _ _ hw3
  have acc := acc.snoc (d := .tuple [.bool true, .int 0, .int 1, .tuple cs]) (.tup (.inl upd_same) (.cons (.bl _) (.cons (.int _) (.cons (.int _) (.cons (h4m.on sm) .nil)))))
  walk_at "rds"
  refine ⟨a, _, 3, _, rfl, rfl, (ha.same sm).sq, atI_nat rfl, ?_⟩
  walk_at "rds"
  intro p13 hp13
  have s1 := same_upd (o := .tup [.int (e), .int (p), .bl true, .ref b]) hp13
  have fA := drc.freshA hp13
  have drc := drc.same s1
  have sm := sm.trans s1
  have acc := acc.on s1
  have hw3 := s1 _ _ hw3
  have acc := acc.snoc (d := .tuple [.int (e), .int (p), .bool true, .tuple cs]) (.tup (.inl upd_same) (.cons (.int _) (.cons (.int _) (.cons (.bl _) (.cons (h4m.on sm) .nil)))))
  walk_at "rds"
  intro l4 hl4
  have s1 := same_upd (o := .lst [.ref p12, .ref p13]) hl4
  have fA := drc.freshA hl4
  have drc := drc.same s1
  have sm := sm.trans s1
  have acc := acc.on s1
  have hw3 := s1 _ _ hw3
  have hl4 := key (a := l4) (o := .lst [.ref p12, .ref p13]) sm
  walk_at "rds"
  refine ⟨w3, l4, _, _, rfl, rfl, hw3, hl4, sz1000 (Nat.le_of_ble_eq_true rfl), ?_⟩
  walk_at "rds"
  intro w4 hw4
  have s1 := same_upd (o := .lst [.ref p0, .ref p1, .ref p2, .ref p3, .ref p4, .ref p5, .ref p6, .ref p7, .ref p8, .ref p9, .ref p10, .ref p11, .ref p12, .ref p13]) hw4
  have fA := drc.freshA hw4
  have drc := drc.same s1
  have sm := sm.trans s1
  have acc := acc.on s1
  have hw3 := s1 _ _ hw3
  have hl4 := s1 _ _ hl4
  have hw4 := key (a := w4) (o := .lst [.ref p0, .ref p1, .ref p2, .ref p3, .ref p4, .ref p5, .ref p6, .ref p7, .ref p8, .ref p9, .ref p10, .ref p11, .ref p12, .ref p13]) sm
  have acc : DtAll K _ (some A) [.ref p0, .ref p1, .ref p2, .ref p3, .ref p4, .ref p5, .ref p6, .ref p7, .ref p8, .ref p9, .ref p10, .ref p11, .ref p12, .ref p13] [.tuple [.int 0, .int 0, .int 0, .tuple []], .tuple [.int (p), .int (p), .int (h), .tuple cs], .tuple [.int (e), .int (e), .int (mx), .tuple cs], .tuple [.int (e), .int (-1), .int (h), .tuple cs], .tuple [.int (e), .int (p), .int (0), .tuple cs], .tuple [.int (e), .int (p), .int (p + 2), .tuple cs], .tuple [.int (1000000000001), .int (p), .int (h), .tuple cs], .list [.int e, .int p, .int h, .tuple cs], .tuple [.int e, .int p, .int h, .tuple cs, .int 1], .tuple [.int e, .int p, .int h], .tuple [.int (e), .int (p), .int (h), .list cs], .tuple [.int e, .int p, .int h, .tuple (cs ++ [.tuple [.int (-1), .int 0, .str ""]])], .tuple [.bool true, .int 0, .int 1, .tuple cs], .tuple [.int (e), .int (p), .bool true, .tuple cs]] := acc
  have bad : ∀ {j : Nat} {x : V} {d : PyData}, ([.ref p0, .ref p1, .ref p2, .ref p3, .ref p4, .ref p5, .ref p6, .ref p7, .ref p8, .ref p9, .ref p10, .ref p11, .ref p12, .ref p13] : List V)[j]? = some x → ([.tuple [.int 0, .int 0, .int 0, .tuple []], .tuple [.int (p), .int (p), .int (h), .tuple cs], .tuple [.int (e), .int (e), .int (mx), .tuple cs], .tuple [.int (e), .int (-1), .int (h), .tuple cs], .tuple [.int (e), .int (p), .int (0), .tuple cs], .tuple [.int (e), .int (p), .int (p + 2), .tuple cs], .tuple [.int (1000000000001), .int (p), .int (h), .tuple cs], .list [.int e, .int p, .int h, .tuple cs], .tuple [.int e, .int p, .int h, .tuple cs, .int 1], .tuple [.int e, .int p, .int h], .tuple [.int (e), .int (p), .int (h), .list cs], .tuple [.int e, .int p, .int h, .tuple (cs ++ [.tuple [.int (-1), .int 0, .str ""]])], .tuple [.bool true, .int 0, .int 1, .tuple cs], .tuple [.int (e), .int (p), .bool true, .tuple cs]] : List PyData)[j]? = some d → dBlock d = false := by
    intro j x d _ gd
    have m := List.mem_of_getElem? gd
    have hb : (dInt 1 1000000000000 (.int e) && dInt 0 (e - 1) (.int p) && dHeight p (.int h) && dCmdsFrom none cs) = true := hb
    rw [Bool.and_eq_true, Bool.and_eq_true, Bool.and_eq_true] at hb
    obtain ⟨⟨⟨b1, b2⟩, b3⟩, b4⟩ := hb
    have b1 : 1 ≤ e ∧ e ≤ 1000000000000 := of_decide_eq_true b1
    have b2 : 0 ≤ p ∧ p ≤ e - 1 := of_decide_eq_true b2
    rcases List.mem_cons.mp m with rfl | m
    · rfl
    rcases List.mem_cons.mp m with rfl | m
    · exact dBlock4_e2 (dInt_no (by omega))
    rcases List.mem_cons.mp m with rfl | m
    · exact dBlock4_e2 (dInt_no (by omega))
    rcases List.mem_cons.mp m with rfl | m
    · exact dBlock4_e2 (dInt_no (by omega))
    rcases List.mem_cons.mp m with rfl | m
    · exact dBlock4_h (by unfold dHeight; split <;> exact dInt_no (by omega))
    rcases List.mem_cons.mp m with rfl | m
    · exact dBlock4_h (by unfold dHeight; split <;> exact dInt_no (by omega))
    rcases List.mem_cons.mp m with rfl | m
    · exact dBlock4_e1 (p := .int p) (h := .int h) (cs := .tuple cs) (dInt_no (i := 1000000000001) (by decide))
    rcases List.mem_cons.mp m with rfl | m
    · rfl
    rcases List.mem_cons.mp m with rfl | m
    · rfl
    rcases List.mem_cons.mp m with rfl | m
    · rfl
    rcases List.mem_cons.mp m with rfl | m
    · exact dBlock4_c rfl
    rcases List.mem_cons.mp m with rfl | m
    · refine dBlock4_c ?_
      show dCmdsFrom none (cs ++ [_]) = false
      rw [dCmdsFrom_snoc, show dCmd (.tuple [.int (-1), .int 0, .str ""]) = false from rfl, Bool.false_and, Bool.and_false]
    rcases List.mem_cons.mp m with rfl | m
    · rfl
    rcases List.mem_cons.mp m with rfl | m
    · exact dBlock4_h (by unfold dHeight; split <;> rfl)
    cases m
  obtain ⟨j, rfl⟩ := Int.eq_ofNat_of_zero_le r0
  have hj : j < 14 := by omega
  have give : ∀ {i : Nat}, i < 14 → ∃ x d, ([.ref p0, .ref p1, .ref p2, .ref p3, .ref p4, .ref p5, .ref p6, .ref p7, .ref p8, .ref p9, .ref p10, .ref p11, .ref p12, .ref p13] : List V)[i]? = some x ∧ ([.tuple [.int 0, .int 0, .int 0, .tuple []], .tuple [.int (p), .int (p), .int (h), .tuple cs], .tuple [.int (e), .int (e), .int (mx), .tuple cs], .tuple [.int (e), .int (-1), .int (h), .tuple cs], .tuple [.int (e), .int (p), .int (0), .tuple cs], .tuple [.int (e), .int (p), .int (p + 2), .tuple cs], .tuple [.int (1000000000001), .int (p), .int (h), .tuple cs], .list [.int e, .int p, .int h, .tuple cs], .tuple [.int e, .int p, .int h, .tuple cs, .int 1], .tuple [.int e, .int p, .int h], .tuple [.int (e), .int (p), .int (h), .list cs], .tuple [.int e, .int p, .int h, .tuple (cs ++ [.tuple [.int (-1), .int 0, .str ""]])], .tuple [.bool true, .int 0, .int 1, .tuple cs], .tuple [.int (e), .int (p), .bool true, .tuple cs]] : List PyData)[i]? = some d ∧ Dt K _ (some A) x d := fun {i} hi => by
    obtain ⟨d, gd, hx⟩ := acc.get (i := i) (List.getElem?_eq_getElem (show i < (([.ref p0, .ref p1, .ref p2, .ref p3, .ref p4, .ref p5, .ref p6, .ref p7, .ref p8, .ref p9, .ref p10, .ref p11, .ref p12, .ref p13] : List V)).length from hi))
    exact ⟨_, d, List.getElem?_eq_getElem _, gd, hx⟩
  obtain ⟨x5, d5, g5, gd5, hx5⟩ := give (i := 4) (by decide)
  obtain ⟨xj, dj, gj, gdj, hxj⟩ := give hj
  have mdF := md1.trans (Same.mod sm)
  walk_at "rds"
  refine ite2 (fun _ => ?_) (fun _ => ?_)
  · walk_at "rds"
    refine ite2 (fun _ => ?_) (fun _ => ?_)
    · walk_at "rds"
      refine ⟨w4, _, (4 : Nat), x5, rfl, rfl, sq hw4, atI_nat g5, ?_⟩
      exact q _ _ d5 mdF drc hx5 (bad g5 gd5)
    · walk_at "rds"
      refine ⟨w4, _, (j : Int), xj, rfl, rfl, sq hw4, atI_nat gj, ?_⟩
      exact q _ _ dj mdF drc hxj (bad gj gdj)
  · walk_at "rds"
    refine ⟨w4, _, (j : Int), xj, rfl, rfl, sq hw4, atI_nat gj, ?_⟩
    exact q _ _ dj mdF drc hxj (bad gj gdj)
end

section
variable {P : Program} {w : World} {K : PySem.W.Frag} {mg : Str → Option Value} {base : Heap}
abbrev dG : PyData := .tuple [.int 0, .int 0, .int 0, .tuple []]
theorem bl_eq (b : Bool) : decide (V.bl b = V.bl b) = true := decide_eq_true rfl
theorem ok_law {C_BadBlock : Addr} {C_LedgerError : Addr} {C_GENESIS : Addr} {C_GENESIS_3 : Addr} {f : Addr} {fd : FuncData} (F : L2.Fun K "law" "law" s_law f fd) (T : Txt K mg C_BadBlock C_LedgerError C_GENESIS C_GENESIS_3) : FnOk P w K mg base L2.CX0 8 f fd ["script"] (spLaw K) := by
  have c__law_draws := c__law_draws (P := P) (w := w) (base := base) T
  have c__law_block := c__law_block (P := P) (w := w) (base := base) T
  have c__law_truth := c__law_truth (P := P) (w := w) (base := base) T
  have c__law_bad_block := c__law_bad_block (P := P) (w := w) (base := base) T
  have c__law_children := c__law_children (P := P) (w := w) (base := base) T
  have c_is_block := c_is_block (P := P) (w := w) (base := base) T none
  have c_check_block := c_check_block (P := P) (w := w) (base := base) T none
  have c_follows := c_follows (P := P) (w := w) (base := base) T none
  have c__law_refused := c__law_refused (P := P) (w := w) (base := base) T none
  have c__law_found := c__law_found (P := P) (w := w) (base := base) T none
  have hG : ∀ (H : Hp) (A : Option Addr), Dt K H A (.ref C_GENESIS) dG := fun H A => .tup (.inr T.k_GENESIS) (.cons (.int _) (.cons (.int _) (.cons (.int _) (.cons (.tup (.inr T.k_GENESIS_3) .nil) .nil))))
  refine F.ok sc_law (fun vs H Q E h => ?_) (fun cdv A' outer s H vs Q E hr h => ?_)
  · obtain ⟨a, ns, rfl, _⟩ := h; rfl
  obtain ⟨a, ns, rfl, hS, hlen, q⟩ := h
  refine ⟨_, (pss_cons (ps_set (i := 1) sc_law.nd rfl (Or.inl rfl) (pe_c c__law_draws hr (by decide) (by rfl) (pa_cons (pv 0) pa_nil)))
      (pss_cons (ps_set (i := 2) sc_law.nd rfl (Or.inl rfl) (pe_lst (pa_cons pe_int pa_nil)))
      (pss_cons (ps_if (PW.pt (pw_or (pt_cmpR (op_neD hr.units) (pe_gc (v := .ref C_GENESIS) (by rfl) ⟨_, T.g_GENESIS, rfl⟩) (pe_tup (pa_cons pe_int (pa_cons pe_int (pa_cons pe_int (pa_cons (pe_tup pa_nil) pa_nil))))) (nomark _)) (pw_or (pt_not (pt_val (pe_c c__law_truth hr (by decide) (by rfl) (pa_cons (pe_c c_is_block hr (by decide) (by rfl) (pa_cons (pe_gc (v := .ref C_GENESIS) (by rfl) ⟨_, T.g_GENESIS, rfl⟩) pa_nil)) (pa_cons pe_bl pa_nil))))) (pw_or1 (pt_not (pt_val (pe_c c__law_refused hr (by decide) (by rfl) (pa_cons (pe_gc (v := .ref C_GENESIS) (by rfl) ⟨_, T.g_GENESIS, rfl⟩) pa_nil)))))))) (pss_one (ps_ret pe_bl)) pss_nil)
      (pss_cons (ps_for PassesOwn.never rfl (pi_range1 (by rfl) T.z_range (pa_cons pe_int pa_nil)) (pg_name (i := 3) sc_law.nd rfl (Or.inl rfl)) (pss_cons (ps_set (i := 4) sc_law.nd rfl (Or.inl rfl) (pe_c c__law_block hr (by decide) (by rfl) (pa_cons (pv 1) (pa_cons (pv 2) (pa_cons pe_int pa_nil)))))
      (pss_cons (ps_if (PW.pt (pw_or (pt_not (pt_val (pe_c c__law_truth hr (by decide) (by rfl) (pa_cons (pe_c c_is_block hr (by decide) (by rfl) (pa_cons (pv 4) pa_nil)) (pa_cons pe_bl pa_nil))))) (pw_or (pt_cmpR (op_neD hr.units) (pe_cX c_check_block hr (by decide) (by rfl) no_pass (pa_cons (pv 4) pa_nil)) (pv 4) (nomark _)) (pw_or1 (pt_not (pt_val (pe_c c__law_found hr (by decide) (by rfl) (pa_cons (pv 4) pa_nil)))))))) (pss_one (ps_ret pe_bl)) pss_nil)
      (pss_cons (ps_set (i := 5) sc_law.nd rfl (Or.inl rfl) (pe_c c__law_bad_block hr (by decide) (by rfl) (pa_cons (pv 4) (pa_cons (pv 1) (pa_cons (pv 2) pa_nil)))))
      (pss_cons (ps_if (PW.pt (pw_or (pt_not (pt_val (pe_c c__law_truth hr (by decide) (by rfl) (pa_cons (pe_c c_is_block hr (by decide) (by rfl) (pa_cons (pv 5) pa_nil)) (pa_cons pe_bl pa_nil))))) (pw_or1 (pt_not (pt_val (pe_c c__law_refused hr (by decide) (by rfl) (pa_cons (pv 5) pa_nil))))))) (pss_one (ps_ret pe_bl)) pss_nil)
      (pss_cons (ps_for PassesOwn.never rfl (pi_list (pe_lst (pa_cons pe_non (pa_cons pe_bl (pa_cons pe_int (pa_cons pe_str (pa_cons (pe_tup pa_nil) (pa_cons (pe_lst (pa_cons (pv 4) pa_nil)) (pa_cons (pe_tup (pa_cons (pv 4) pa_nil)) pa_nil))))))))) (pg_name (i := 6) sc_law.nd rfl (Or.inl rfl)) (pss_one (ps_if (pt_not (pt_val (pe_c c__law_truth hr (by decide) (by rfl) (pa_cons (pe_c c_is_block hr (by decide) (by rfl) (pa_cons (pv 6) pa_nil)) (pa_cons pe_bl pa_nil))))) (pss_one (ps_ret pe_bl)) pss_nil)))
      (pss_cons (ps_set (i := 7) sc_law.nd rfl (Or.inl rfl) (pe_c c__law_block hr (by decide) (by rfl) (pa_cons (pv 1) (pa_cons (pv 2) (pa_cons pe_int pa_nil)))))
      (pss_cut (ps_if (PW.pt (pw_and (pt_cmpR op_lt (pe_ix (kixt (K := K)) (pv 4) pe_int (fun _ _ => rfl)) (pe_op op_sub (pe_op op_pow pe_int pe_int) pe_int) (nomark _)) (pw_and1 (pt_not (pt_val (pe_c c__law_children hr (by decide) (by rfl) (pa_cons (pv 4) (pa_cons (pv 1) (pa_cons (pv 2) pa_nil))))))))) (pss_one (ps_ret pe_bl)) pss_nil)
      (pss_cons (ps_if (pt_not (pt_val (pe_c c__law_truth hr (by decide) (by rfl) (pa_cons (pe_c c_follows hr (by decide) (by rfl) (pa_cons (pv 7) (pa_cons (pv 4) pa_nil))) (pa_cons (pe_and (pe_cmpR op_eq (pe_ix (kixt (K := K)) (pv 7) pe_int (fun _ _ => rfl)) (pe_ix (kixt (K := K)) (pv 4) pe_int (fun _ _ => rfl)) (nomark _)) (pe_one (pe_cmpR op_eq (pe_ix (kixt (K := K)) (pv 7) pe_int (fun _ _ => rfl)) (pe_op op_add (pe_ix (kixt (K := K)) (pv 4) pe_int (fun _ _ => rfl)) pe_int) (nomark _)))) pa_nil))))) (pss_one (ps_ret pe_bl)) pss_nil)
      (pss_one (ps_if (pt_not (pt_val (pe_c c__law_truth hr (by decide) (by rfl) (pa_cons (pe_c c_follows hr (by decide) (by rfl) (pa_cons (pv 7) (pa_cons (pe_gc (v := .ref C_GENESIS) (by rfl) ⟨_, T.g_GENESIS, rfl⟩) pa_nil))) (pa_cons (pe_cmpR op_eq (pe_ix (kixt (K := K)) (pv 7) pe_int (fun _ _ => rfl)) pe_int (nomark _)) pa_nil))))) (pss_one (ps_ret pe_bl)) pss_nil)))))))))))
      (pss_one (ps_ret pe_bl)))))), ?_⟩
  walk_at "rds"
  refine ⟨a, ns, rfl, hS, hlen, fun H1 D ds sm1 nD hD hrg hdl => ?_⟩
  walk_at "rds"
  intro A nA
  have dr0 : Dr (upd H1 A (.lst [.int 0])) D A := ⟨ne_of_none hD nA, ds, 0, by rw [upd_ne (ne_of_none hD nA)]; exact hD, upd_same, hrg, hdl⟩
  walk_at "rds"
  intro t0 ht0
  walk_at "rds"
  intro t1 ht1
  have dr0 := (dr0.new (o := .tup []) ht0).new (o := .tup [.int 0, .int 0, .int 0, .ref t0]) ht1
  walk_at "rds"
  refine ⟨dG, dG, (hG _ none).dp, Dt.dp (A := none) _ _ (.tup (.inl upd_same) (.cons (.int _) (.cons (.int _) (.cons (.int _) (.cons (.tup (.inl (same_upd ht1 _ _ upd_same)) .nil) .nil))))), rfl, rfl, ?_⟩
  rw [SeqAt.eqv_refl dG rfl]
  walk_at "rds"
  refine ⟨_, dG, rfl, hG _ none, fun H2 s2 => ?_⟩
  walk_at "rds"
  refine ⟨_, _, rfl, ?_⟩
  rw [show dBlock dG = false from rfl, bl_eq]
  walk_at "rds"
  refine ⟨_, dG, rfl, hG _ none, fun H3 s3 => ?_⟩
  refine ⟨true, rfl, ?_⟩
  walk_at "rds"
  have dr0 := (dr0.same s2).same s3
  refine for_it walk_range (Pv := fun i σ H' => ∃ y3 y4 y5 y6 y7, σ = [some (.ref a), some (.ref D), some (.ref A), y3, y4, y5, y6, y7] ∧ Dr H' D A) ⟨_, _, _, _, _, rfl, dr0⟩ (fun _ _ _ _ _ => trivial) (fun i0 x σ H4 H5 hi hp hy => ?_) (fun σ H4 hp => ?_)
  · obtain ⟨y3, y4, y5, y6, y7, rfl, dr⟩ := hp
    obtain ⟨rfl, rfl⟩ := hy
    walk_at "rds"
    refine ⟨D, A, 5, rfl, dr, by decide, by decide, fun H6 x e p h cs md6 dr6 hx hb hl => ?_⟩
    have hc : dCmdsFrom none cs = true := by
      have hb : (_ && dCmdsFrom none cs) = true := hb
      exact (Bool.and_eq_true_iff.mp hb).2
    walk_at "rds"
    refine ⟨_, _, rfl, hx.an, fun H7 s7 => ?_⟩
    walk_at "rds"
    refine ⟨_, _, rfl, ?_⟩
    rw [hb, bl_eq]
    walk_at "rds"
    have hx7 := hx.on s7
    refine ⟨_, _, rfl, hx7.an, fun _ H8 s8 => ?_, fun z => absurd hb (by rw [z]; decide)⟩
    have hx8 := hx7.on s8
    walk_at "rds"
    refine ⟨_, _, hx8.dp, hx8.dp, (shaped_block hc).1, (shaped_block hc).1, ?_⟩
    rw [SeqAt.eqv_refl _ (shaped_block hc).2]
    walk_at "rds"
    refine ⟨_, e, p, h, cs, rfl, hx8.an, hc, hl, fun H9 s9 => ?_⟩
    have hx9 := hx8.on s9
    have dr9 := ((dr6.same s7).same s8).same s9
    walk_at "rds"
    refine ⟨_, D, A, e, p, h, cs, rfl, dr9, hx9, hb, hl, fun H10 y d md10 dr10 hy hbad => ?_⟩
    have hx10 := hx9.by md10 dr9
    walk_at "rds"
    refine ⟨_, _, rfl, hy.an, fun H11 s11 => ?_⟩
    walk_at "rds"
    refine ⟨_, _, rfl, ?_⟩
    rw [hbad, bl_eq]
    walk_at "rds"
    refine ⟨_, _, rfl, (hy.on s11).an, fun H12 s12 => ?_⟩
    refine ⟨true, by show V.bl (!dBlock d) = V.bl true; rw [hbad]; rfl, ?_⟩
    walk_at "rds"
    have hx12 := (hx10.on s11).on s12
    have dr12 := (dr10.same s11).same s12
    intro u0 hu0
    walk_at "rds"
    intro u1 hu1
    walk_at "rds"
    intro u2 hu2
    walk_at "rds"
    intro L hL
    have z0 := same_upd (o := .tup []) hu0
    have z1 := same_upd (o := .lst [x]) hu1
    have z2 := same_upd (o := .tup [x]) hu2
    have z3 := same_upd (o := .lst [.non, .bl true, .int 7, .str "block", .ref u0, .ref u1, .ref u2]) hL
    have zz := ((z0.trans z1).trans z2).trans z3
    have hx13 := (hx12.on zz).an
    have dr13 := dr12.same zz
    have hxa := hx12.an
    have acc : DtAll K _ none [.non, .bl true, .int 7, .str "block", .ref u0, .ref u1, .ref u2] [.none, .bool true, .int 7, .str "block", .tuple [], .list [.tuple [.int e, .int p, .int h, .tuple cs]], .tuple [.tuple [.int e, .int p, .int h, .tuple cs]]] :=
      .cons .non (.cons (.bl _) (.cons (.int _) (.cons (.str _ (by decide)) (.cons (.tup (.inl (z3 _ _ (z2 _ _ (z1 _ _ upd_same)))) .nil) (.cons (.lst trivial (z3 _ _ (z2 _ _ upd_same)) (.cons hx13 .nil)) (.cons (.tup (.inl (z3 _ _ upd_same)) (.cons hx13 .nil)) .nil))))))
    have hbadv : ∀ d ∈ ([.none, .bool true, .int 7, .str "block", .tuple [], .list [.tuple [.int e, .int p, .int h, .tuple cs]], .tuple [.tuple [.int e, .int p, .int h, .tuple cs]]] : List PyData), dBlock d = false := by
      intro d m
      rcases List.mem_cons.mp m with rfl | m
      · rfl
      rcases List.mem_cons.mp m with rfl | m
      · rfl
      rcases List.mem_cons.mp m with rfl | m
      · rfl
      rcases List.mem_cons.mp m with rfl | m
      · rfl
      rcases List.mem_cons.mp m with rfl | m
      · rfl
      rcases List.mem_cons.mp m with rfl | m
      · rfl
      rcases List.mem_cons.mp m with rfl | m
      · rfl
      cases m
    refine ⟨L, rfl, ⟨_, sq upd_same⟩, ?_⟩
    refine for_it (walk_list (K := K) (a := L) (xs := [.non, .bl true, .int 7, .str "block", .ref u0, .ref u1, .ref u2])) (Pv := fun i σ H' => ∃ y6, σ = [some (.ref a), some (.ref D), some (.ref A), some (.int (0 + (i0 : Int))), some x, some y, y6, y7] ∧ Same _ H') ⟨_, rfl, Same.refl _⟩ (fun i σ H' _ h => by obtain ⟨_, _, sm⟩ := h; exact sq (sm _ _ upd_same)) (fun i v σ H13 H14 hi hp hy => ?_) (fun σ H13 hp => ?_)
    · obtain ⟨y6, rfl, sm⟩ := hp
      obtain ⟨rfl, gx⟩ := hy
      obtain ⟨dv, gd, hv⟩ := acc.get gx
      walk_at "rds"
      refine ⟨_, _, rfl, hv.on sm, fun H15 s15 => ?_⟩
      walk_at "rds"
      refine ⟨_, _, rfl, ?_⟩
      rw [hbadv dv (List.mem_of_getElem? gd), bl_eq]
      walk_at "rds"
      exact ⟨_, rfl, sm.trans s15⟩
    · obtain ⟨y6, rfl, sm⟩ := hp
      have dr14 := dr13.same sm
      have hx14 := (hx12.on zz).on sm
      walk_at "rds"
      refine ⟨D, A, 1, rfl, dr14, by decide, by decide, fun H16 x2 e2 p2 h2 cs2 md16 dr16 hx2 hb2 hl2 => ?_⟩
      have hx16 := hx14.by md16 dr14
      walk_at "rds"
      refine ⟨fun σ' H' => σ' = [some (.ref a), some (.ref D), some (.ref A), some (.int (0 + (i0 : Int))), some x, some y, y6, some x2] ∧ Mod A H16 H' ∧ Dr H' D A, ?_, ?_⟩
      · obtain ⟨q0, w1, w2, w3, w4, rfl, hq, k1, k2, k3, k4⟩ := id hx16.quad
        cases k1; cases k2; cases k3
        walk_at "rds"
        refine ⟨q0, _, 0, _, rfl, rfl, hq.sq, atI_nat rfl, ?_⟩
        walk_at "rds"
        refine ite2 (fun z => ?_) (fun z => ?_)
        · have z : e < (10 : Int) ^ (12 : Int).toNat - 9 := of_decide_eq_true z
          have e12 : (10 : Int) ^ (12 : Int).toNat = 1000000000000 := rfl
          walk_at "rds"
          refine ⟨_, D, A, e, p, h, cs, rfl, dr16, hx16, hb, by omega, fun H17 md17 dr17 => ?_⟩
          walk_at "rds"
          exact ⟨rfl, md17, dr17⟩
        · exact ⟨rfl, Mod.refl, dr16⟩
      rintro σ' H17 ⟨rfl, md17, dr17⟩
      have hx17 := hx16.by md17 dr16
      have hy17 := hx2.by md17 dr16
      have F5 : dFollows (.tuple [.int e2, .int p2, .int h2, .tuple cs2]) (.tuple [.int e, .int p, .int h, .tuple cs]) = (decide (p2 = e) && decide (h2 = h + 1)) := by
        show (dBlock _ && (dBlock _ || _) && (decide (p2 = e) && decide (h2 = h + 1))) = _
        rw [hb2, hb]; rfl
      have F6 : dFollows (.tuple [.int e2, .int p2, .int h2, .tuple cs2]) dG = decide (p2 = 0) := by
        show (dBlock _ && (dBlock dG || dGen dG) && (decide (p2 = 0) && decide (h2 = 0 + 1))) = _
        rw [hb2, show (dBlock dG || dGen dG) = true from rfl]
        by_cases ez : p2 = 0
        · have hb3 : (_ && dHeight p2 (.int h2) && dCmdsFrom none cs2) = true := hb2
          rw [Bool.and_eq_true, Bool.and_eq_true] at hb3
          have hh := hb3.1.2
          unfold dHeight at hh
          rw [if_pos ez] at hh
          have hh : 1 ≤ h2 ∧ h2 ≤ 1 := of_decide_eq_true hh
          rw [decide_eq_true ez, decide_eq_true (by omega)]; rfl
        · rw [decide_eq_false ez]; rfl
      walk_at "rds"
      refine ⟨_, _, _, _, rfl, hy17.an, hx17.an, fun H18 s18 => ?_⟩
      rw [F5]
      have hy18 := hy17.on s18
      obtain ⟨q1, w1, w2, w3, w4, rfl, g1, k1, k2, k3, k4⟩ := (hx17.on s18).quad
      obtain ⟨q2, v1, v2, v3, v4, rfl, g2, l1, l2, l3, l4⟩ := id hy18.quad
      cases k1; cases k2; cases k3; cases l1; cases l2; cases l3
      walk_at "rds"
      refine ⟨q2, _, 1, _, rfl, rfl, g2.sq, atI_nat rfl, ?_⟩
      walk_at "rds"
      refine ⟨q1, _, 0, _, rfl, rfl, g1.sq, atI_nat rfl, ?_⟩
      walk_at "rds"
      by_cases ee : p2 = e
      · refine ifT (decide_eq_true (by rw [ee])) ?_
        walk_at "rds"
        refine ⟨q2, _, 2, _, rfl, rfl, g2.sq, atI_nat rfl, ?_⟩
        walk_at "rds"
        refine ⟨q1, _, 2, _, rfl, rfl, g1.sq, atI_nat rfl, ?_⟩
        walk_at "rds"
        refine ⟨_, _, rfl, ?_⟩
        rw [show (decide (p2 = e) && decide (h2 = h + 1)) = decide (V.int h2 = V.int (h + 1)) by rw [decide_eq_true ee, Bool.true_and]; exact decide_eq_decide.mpr ⟨fun z => by rw [z], V.int.inj⟩, bl_eq]
        walk_at "rds"
        refine ⟨_, _, _, dG, rfl, hy18.an, hG _ none, fun H19 s19 => ?_⟩
        rw [F6]
        have g2' := g2.same s19
        walk_at "rds"
        refine ⟨q2, _, 1, _, rfl, rfl, g2'.sq, atI_nat rfl, ?_⟩
        walk_at "rds"
        refine ⟨_, _, rfl, ?_⟩
        rw [show decide (p2 = 0) = decide (V.int p2 = V.int 0) from decide_eq_decide.mpr ⟨fun z => by rw [z], V.int.inj⟩, bl_eq]
        walk_at "rds"
        exact ⟨_, _, _, _, _, rfl, (dr17.same s18).same s19⟩
      · refine ifF (decide_eq_false fun z => ee (V.int.inj z)) ?_
        refine ⟨_, _, rfl, ?_⟩
        refine ⟨true, ?_, ?_⟩
        · show V.bl (decide (V.bl (decide (p2 = e) && decide (h2 = h + 1)) = V.bl false)) = V.bl true
          rw [decide_eq_false ee]; rfl
        walk_at "rds"
        refine ⟨_, _, _, dG, rfl, hy18.an, hG _ none, fun H19 s19 => ?_⟩
        rw [F6]
        have g2' := g2.same s19
        walk_at "rds"
        refine ⟨q2, _, 1, _, rfl, rfl, g2'.sq, atI_nat rfl, ?_⟩
        walk_at "rds"
        refine ⟨_, _, rfl, ?_⟩
        rw [show decide (p2 = 0) = decide (V.int p2 = V.int 0) from decide_eq_decide.mpr ⟨fun z => by rw [z], V.int.inj⟩, bl_eq]
        walk_at "rds"
        exact ⟨_, _, _, _, _, rfl, (dr17.same s18).same s19⟩
  · obtain ⟨y3, y4, y5, y6, y7, rfl, dr⟩ := hp
    walk_at "rds"
    exact q _
end

theorem fin {C_BadBlock : Addr} {C_LedgerError : Addr} {C_GENESIS : Addr} {C_GENESIS_3 : Addr} {P : Program} {w : World} {K : PySem.W.Frag} {mg : Str → Option Value} {fa : Addr} (hfa : mg "law" = some (.ref fa)) (T : Txt K mg C_BadBlock C_LedgerError C_GENESIS C_GENESIS_3) :
    ∃ fd : FuncData, (∀ (s : Shared) (u : Value), BindsTo s fd ⟨[u], []⟩ [("script", u)]) ∧ ∀ base : Heap, K.In base → base.Ns mainGlobals mg → FnOk P w K mg base L2.CX0 8 fa fd ["script"] (spLaw K) := by
  obtain ⟨f, fd, F, hm, b⟩ := T.d_law.ex
  cases hfa.symm.trans hm
  refine ⟨fd, fun s u => ?_, fun base _ _ => ok_law F T⟩
  obtain ⟨oc, od, kV, doc, pm, an, cdv, ct, osl, rfl, l, _⟩ := F.ex
  exact .of_eq rfl

theorem all_mk {K : PySem.W.Frag} {h : Heap} {mg : Str → Option Value} (X : K.In h) (G : h.Ns mainGlobals mg)
    {f_is_integer : Addr} {od_is_integer an_is_integer : Option Addr} {sl_is_integer : Array (Option Value)} {oc_is_integer kV_is_integer dc_is_integer pm_is_integer cd_is_integer ct_is_integer : Value}
    {f_is_printable : Addr} {od_is_printable an_is_printable : Option Addr} {sl_is_printable : Array (Option Value)} {oc_is_printable kV_is_printable dc_is_printable pm_is_printable cd_is_printable ct_is_printable : Value}
    {f_is_short : Addr} {od_is_short an_is_short : Option Addr} {sl_is_short : Array (Option Value)} {oc_is_short kV_is_short dc_is_short pm_is_short cd_is_short ct_is_short : Value}
    {f_is_client : Addr} {od_is_client an_is_client : Option Addr} {sl_is_client : Array (Option Value)} {oc_is_client kV_is_client dc_is_client pm_is_client cd_is_client ct_is_client : Value}
    {f_is_number : Addr} {od_is_number an_is_number : Option Addr} {sl_is_number : Array (Option Value)} {oc_is_number kV_is_number dc_is_number pm_is_number cd_is_number ct_is_number : Value}
    {f_is_command : Addr} {od_is_command an_is_command : Option Addr} {sl_is_command : Array (Option Value)} {oc_is_command kV_is_command dc_is_command pm_is_command cd_is_command ct_is_command : Value}
    {f_is_command_list : Addr} {od_is_command_list an_is_command_list : Option Addr} {sl_is_command_list : Array (Option Value)} {oc_is_command_list kV_is_command_list dc_is_command_list pm_is_command_list cd_is_command_list ct_is_command_list : Value}
    {f_is_block : Addr} {od_is_block an_is_block : Option Addr} {sl_is_block : Array (Option Value)} {oc_is_block kV_is_block dc_is_block pm_is_block cd_is_block ct_is_block : Value}
    {f_is_height_above : Addr} {od_is_height_above an_is_height_above : Option Addr} {sl_is_height_above : Array (Option Value)} {oc_is_height_above kV_is_height_above dc_is_height_above pm_is_height_above cd_is_height_above ct_is_height_above : Value}
    {f_is_genesis : Addr} {od_is_genesis an_is_genesis : Option Addr} {sl_is_genesis : Array (Option Value)} {oc_is_genesis kV_is_genesis dc_is_genesis pm_is_genesis cd_is_genesis ct_is_genesis : Value}
    {f_check_block : Addr} {od_check_block an_check_block : Option Addr} {sl_check_block : Array (Option Value)} {oc_check_block kV_check_block dc_check_block pm_check_block cd_check_block ct_check_block : Value}
    {f_follows : Addr} {od_follows an_follows : Option Addr} {sl_follows : Array (Option Value)} {oc_follows kV_follows dc_follows pm_follows cd_follows ct_follows : Value}
    {f_command_of : Addr} {od_command_of an_command_of : Option Addr} {sl_command_of : Array (Option Value)} {oc_command_of kV_command_of dc_command_of pm_command_of cd_command_of ct_command_of : Value}
    {f__law_draws : Addr} {od__law_draws an__law_draws : Option Addr} {sl__law_draws : Array (Option Value)} {oc__law_draws kV__law_draws dc__law_draws pm__law_draws cd__law_draws ct__law_draws : Value}
    {f__law_next : Addr} {od__law_next an__law_next : Option Addr} {sl__law_next : Array (Option Value)} {oc__law_next kV__law_next dc__law_next pm__law_next cd__law_next ct__law_next : Value}
    {f__law_big : Addr} {od__law_big an__law_big : Option Addr} {sl__law_big : Array (Option Value)} {oc__law_big kV__law_big dc__law_big pm__law_big cd__law_big ct__law_big : Value}
    {f__law_char : Addr} {od__law_char an__law_char : Option Addr} {sl__law_char : Array (Option Value)} {oc__law_char kV__law_char dc__law_char pm__law_char cd__law_char ct__law_char : Value}
    {f__law_string : Addr} {od__law_string an__law_string : Option Addr} {sl__law_string : Array (Option Value)} {oc__law_string kV__law_string dc__law_string pm__law_string cd__law_string ct__law_string : Value}
    {f__law_command : Addr} {od__law_command an__law_command : Option Addr} {sl__law_command : Array (Option Value)} {oc__law_command kV__law_command dc__law_command pm__law_command cd__law_command ct__law_command : Value}
    {f__law_commands : Addr} {od__law_commands an__law_commands : Option Addr} {sl__law_commands : Array (Option Value)} {oc__law_commands kV__law_commands dc__law_commands pm__law_commands cd__law_commands ct__law_commands : Value}
    {f__law_block : Addr} {od__law_block an__law_block : Option Addr} {sl__law_block : Array (Option Value)} {oc__law_block kV__law_block dc__law_block pm__law_block cd__law_block ct__law_block : Value}
    {f__law_truth : Addr} {od__law_truth an__law_truth : Option Addr} {sl__law_truth : Array (Option Value)} {oc__law_truth kV__law_truth dc__law_truth pm__law_truth cd__law_truth ct__law_truth : Value}
    {f__law_bad_block : Addr} {od__law_bad_block an__law_bad_block : Option Addr} {sl__law_bad_block : Array (Option Value)} {oc__law_bad_block kV__law_bad_block dc__law_bad_block pm__law_bad_block cd__law_bad_block ct__law_bad_block : Value}
    {f__law_refused : Addr} {od__law_refused an__law_refused : Option Addr} {sl__law_refused : Array (Option Value)} {oc__law_refused kV__law_refused dc__law_refused pm__law_refused cd__law_refused ct__law_refused : Value}
    {f__law_found : Addr} {od__law_found an__law_found : Option Addr} {sl__law_found : Array (Option Value)} {oc__law_found kV__law_found dc__law_found pm__law_found cd__law_found ct__law_found : Value}
    {f__law_children : Addr} {od__law_children an__law_children : Option Addr} {sl__law_children : Array (Option Value)} {oc__law_children kV__law_children dc__law_children pm__law_children cd__law_children ct__law_children : Value}
    {f_law : Addr} {od_law an_law : Option Addr} {sl_law : Array (Option Value)} {oc_law kV_law dc_law pm_law cd_law ct_law : Value}
    {C_BadBlock : Addr}
    {C_LedgerError : Addr}
    {t_GENESIS_0 : Tok}
    {t_GENESIS_1 : Tok}
    {t_GENESIS_2 : Tok}
    {C_GENESIS : Addr} {od_GENESIS : Option Addr} {sl_GENESIS : Array (Option Value)} {n_GENESIS : Nat}
    {C_GENESIS_3 : Addr} {od_GENESIS_3 : Option Addr} {sl_GENESIS_3 : Array (Option Value)} {n_GENESIS_3 : Nat}
    {t_MOST_CLIENTS : Tok}
    {t_MOST_NUMBER : Tok}
    {t_MOST_TEXT : Tok}
    (a_is_integer : PySem.W.nsIn K mainGlobals "is_integer" = some (some (.ref f_is_integer)))
    (l_is_integer : K.lookup f_is_integer = some ⟨oc_is_integer, od_is_integer, .func (PySem.W.fnOf "is_integer" "is_integer" (defArgs s_is_integer) (defBody s_is_integer) (defScope s_is_integer) .none kV_is_integer dc_is_integer pm_is_integer an_is_integer cd_is_integer ct_is_integer), sl_is_integer⟩)
    (e_is_integer : PySem.W.codeIn K cd_is_integer "is_integer" = true)
    (k_is_integer : PySem.W.keepIn K (.ref f_is_integer) = true)
    (a_is_printable : PySem.W.nsIn K mainGlobals "is_printable" = some (some (.ref f_is_printable)))
    (l_is_printable : K.lookup f_is_printable = some ⟨oc_is_printable, od_is_printable, .func (PySem.W.fnOf "is_printable" "is_printable" (defArgs s_is_printable) (defBody s_is_printable) (defScope s_is_printable) .none kV_is_printable dc_is_printable pm_is_printable an_is_printable cd_is_printable ct_is_printable), sl_is_printable⟩)
    (e_is_printable : PySem.W.codeIn K cd_is_printable "is_printable" = true)
    (k_is_printable : PySem.W.keepIn K (.ref f_is_printable) = true)
    (a_is_short : PySem.W.nsIn K mainGlobals "is_short" = some (some (.ref f_is_short)))
    (l_is_short : K.lookup f_is_short = some ⟨oc_is_short, od_is_short, .func (PySem.W.fnOf "is_short" "is_short" (defArgs s_is_short) (defBody s_is_short) (defScope s_is_short) .none kV_is_short dc_is_short pm_is_short an_is_short cd_is_short ct_is_short), sl_is_short⟩)
    (e_is_short : PySem.W.codeIn K cd_is_short "is_short" = true)
    (k_is_short : PySem.W.keepIn K (.ref f_is_short) = true)
    (a_is_client : PySem.W.nsIn K mainGlobals "is_client" = some (some (.ref f_is_client)))
    (l_is_client : K.lookup f_is_client = some ⟨oc_is_client, od_is_client, .func (PySem.W.fnOf "is_client" "is_client" (defArgs s_is_client) (defBody s_is_client) (defScope s_is_client) .none kV_is_client dc_is_client pm_is_client an_is_client cd_is_client ct_is_client), sl_is_client⟩)
    (e_is_client : PySem.W.codeIn K cd_is_client "is_client" = true)
    (k_is_client : PySem.W.keepIn K (.ref f_is_client) = true)
    (a_is_number : PySem.W.nsIn K mainGlobals "is_number" = some (some (.ref f_is_number)))
    (l_is_number : K.lookup f_is_number = some ⟨oc_is_number, od_is_number, .func (PySem.W.fnOf "is_number" "is_number" (defArgs s_is_number) (defBody s_is_number) (defScope s_is_number) .none kV_is_number dc_is_number pm_is_number an_is_number cd_is_number ct_is_number), sl_is_number⟩)
    (e_is_number : PySem.W.codeIn K cd_is_number "is_number" = true)
    (k_is_number : PySem.W.keepIn K (.ref f_is_number) = true)
    (a_is_command : PySem.W.nsIn K mainGlobals "is_command" = some (some (.ref f_is_command)))
    (l_is_command : K.lookup f_is_command = some ⟨oc_is_command, od_is_command, .func (PySem.W.fnOf "is_command" "is_command" (defArgs s_is_command) (defBody s_is_command) (defScope s_is_command) .none kV_is_command dc_is_command pm_is_command an_is_command cd_is_command ct_is_command), sl_is_command⟩)
    (e_is_command : PySem.W.codeIn K cd_is_command "is_command" = true)
    (k_is_command : PySem.W.keepIn K (.ref f_is_command) = true)
    (a_is_command_list : PySem.W.nsIn K mainGlobals "is_command_list" = some (some (.ref f_is_command_list)))
    (l_is_command_list : K.lookup f_is_command_list = some ⟨oc_is_command_list, od_is_command_list, .func (PySem.W.fnOf "is_command_list" "is_command_list" (defArgs s_is_command_list) (defBody s_is_command_list) (defScope s_is_command_list) .none kV_is_command_list dc_is_command_list pm_is_command_list an_is_command_list cd_is_command_list ct_is_command_list), sl_is_command_list⟩)
    (e_is_command_list : PySem.W.codeIn K cd_is_command_list "is_command_list" = true)
    (k_is_command_list : PySem.W.keepIn K (.ref f_is_command_list) = true)
    (a_is_block : PySem.W.nsIn K mainGlobals "is_block" = some (some (.ref f_is_block)))
    (l_is_block : K.lookup f_is_block = some ⟨oc_is_block, od_is_block, .func (PySem.W.fnOf "is_block" "is_block" (defArgs s_is_block) (defBody s_is_block) (defScope s_is_block) .none kV_is_block dc_is_block pm_is_block an_is_block cd_is_block ct_is_block), sl_is_block⟩)
    (e_is_block : PySem.W.codeIn K cd_is_block "is_block" = true)
    (k_is_block : PySem.W.keepIn K (.ref f_is_block) = true)
    (a_is_height_above : PySem.W.nsIn K mainGlobals "is_height_above" = some (some (.ref f_is_height_above)))
    (l_is_height_above : K.lookup f_is_height_above = some ⟨oc_is_height_above, od_is_height_above, .func (PySem.W.fnOf "is_height_above" "is_height_above" (defArgs s_is_height_above) (defBody s_is_height_above) (defScope s_is_height_above) .none kV_is_height_above dc_is_height_above pm_is_height_above an_is_height_above cd_is_height_above ct_is_height_above), sl_is_height_above⟩)
    (e_is_height_above : PySem.W.codeIn K cd_is_height_above "is_height_above" = true)
    (k_is_height_above : PySem.W.keepIn K (.ref f_is_height_above) = true)
    (a_is_genesis : PySem.W.nsIn K mainGlobals "is_genesis" = some (some (.ref f_is_genesis)))
    (l_is_genesis : K.lookup f_is_genesis = some ⟨oc_is_genesis, od_is_genesis, .func (PySem.W.fnOf "is_genesis" "is_genesis" (defArgs s_is_genesis) (defBody s_is_genesis) (defScope s_is_genesis) .none kV_is_genesis dc_is_genesis pm_is_genesis an_is_genesis cd_is_genesis ct_is_genesis), sl_is_genesis⟩)
    (e_is_genesis : PySem.W.codeIn K cd_is_genesis "is_genesis" = true)
    (k_is_genesis : PySem.W.keepIn K (.ref f_is_genesis) = true)
    (a_check_block : PySem.W.nsIn K mainGlobals "check_block" = some (some (.ref f_check_block)))
    (l_check_block : K.lookup f_check_block = some ⟨oc_check_block, od_check_block, .func (PySem.W.fnOf "check_block" "check_block" (defArgs s_check_block) (defBody s_check_block) (defScope s_check_block) .none kV_check_block dc_check_block pm_check_block an_check_block cd_check_block ct_check_block), sl_check_block⟩)
    (e_check_block : PySem.W.codeIn K cd_check_block "check_block" = true)
    (k_check_block : PySem.W.keepIn K (.ref f_check_block) = true)
    (a_follows : PySem.W.nsIn K mainGlobals "follows" = some (some (.ref f_follows)))
    (l_follows : K.lookup f_follows = some ⟨oc_follows, od_follows, .func (PySem.W.fnOf "follows" "follows" (defArgs s_follows) (defBody s_follows) (defScope s_follows) .none kV_follows dc_follows pm_follows an_follows cd_follows ct_follows), sl_follows⟩)
    (e_follows : PySem.W.codeIn K cd_follows "follows" = true)
    (k_follows : PySem.W.keepIn K (.ref f_follows) = true)
    (a_command_of : PySem.W.nsIn K mainGlobals "command_of" = some (some (.ref f_command_of)))
    (l_command_of : K.lookup f_command_of = some ⟨oc_command_of, od_command_of, .func (PySem.W.fnOf "command_of" "command_of" (defArgs s_command_of) (defBody s_command_of) (defScope s_command_of) .none kV_command_of dc_command_of pm_command_of an_command_of cd_command_of ct_command_of), sl_command_of⟩)
    (e_command_of : PySem.W.codeIn K cd_command_of "command_of" = true)
    (k_command_of : PySem.W.keepIn K (.ref f_command_of) = true)
    (a__law_draws : PySem.W.nsIn K mainGlobals "_law_draws" = some (some (.ref f__law_draws)))
    (l__law_draws : K.lookup f__law_draws = some ⟨oc__law_draws, od__law_draws, .func (PySem.W.fnOf "_law_draws" "_law_draws" (defArgs s__law_draws) (defBody s__law_draws) (defScope s__law_draws) .none kV__law_draws dc__law_draws pm__law_draws an__law_draws cd__law_draws ct__law_draws), sl__law_draws⟩)
    (e__law_draws : PySem.W.codeIn K cd__law_draws "_law_draws" = true)
    (k__law_draws : PySem.W.keepIn K (.ref f__law_draws) = true)
    (a__law_next : PySem.W.nsIn K mainGlobals "_law_next" = some (some (.ref f__law_next)))
    (l__law_next : K.lookup f__law_next = some ⟨oc__law_next, od__law_next, .func (PySem.W.fnOf "_law_next" "_law_next" (defArgs s__law_next) (defBody s__law_next) (defScope s__law_next) .none kV__law_next dc__law_next pm__law_next an__law_next cd__law_next ct__law_next), sl__law_next⟩)
    (e__law_next : PySem.W.codeIn K cd__law_next "_law_next" = true)
    (k__law_next : PySem.W.keepIn K (.ref f__law_next) = true)
    (a__law_big : PySem.W.nsIn K mainGlobals "_law_big" = some (some (.ref f__law_big)))
    (l__law_big : K.lookup f__law_big = some ⟨oc__law_big, od__law_big, .func (PySem.W.fnOf "_law_big" "_law_big" (defArgs s__law_big) (defBody s__law_big) (defScope s__law_big) .none kV__law_big dc__law_big pm__law_big an__law_big cd__law_big ct__law_big), sl__law_big⟩)
    (e__law_big : PySem.W.codeIn K cd__law_big "_law_big" = true)
    (k__law_big : PySem.W.keepIn K (.ref f__law_big) = true)
    (a__law_char : PySem.W.nsIn K mainGlobals "_law_char" = some (some (.ref f__law_char)))
    (l__law_char : K.lookup f__law_char = some ⟨oc__law_char, od__law_char, .func (PySem.W.fnOf "_law_char" "_law_char" (defArgs s__law_char) (defBody s__law_char) (defScope s__law_char) .none kV__law_char dc__law_char pm__law_char an__law_char cd__law_char ct__law_char), sl__law_char⟩)
    (e__law_char : PySem.W.codeIn K cd__law_char "_law_char" = true)
    (k__law_char : PySem.W.keepIn K (.ref f__law_char) = true)
    (a__law_string : PySem.W.nsIn K mainGlobals "_law_string" = some (some (.ref f__law_string)))
    (l__law_string : K.lookup f__law_string = some ⟨oc__law_string, od__law_string, .func (PySem.W.fnOf "_law_string" "_law_string" (defArgs s__law_string) (defBody s__law_string) (defScope s__law_string) .none kV__law_string dc__law_string pm__law_string an__law_string cd__law_string ct__law_string), sl__law_string⟩)
    (e__law_string : PySem.W.codeIn K cd__law_string "_law_string" = true)
    (k__law_string : PySem.W.keepIn K (.ref f__law_string) = true)
    (a__law_command : PySem.W.nsIn K mainGlobals "_law_command" = some (some (.ref f__law_command)))
    (l__law_command : K.lookup f__law_command = some ⟨oc__law_command, od__law_command, .func (PySem.W.fnOf "_law_command" "_law_command" (defArgs s__law_command) (defBody s__law_command) (defScope s__law_command) .none kV__law_command dc__law_command pm__law_command an__law_command cd__law_command ct__law_command), sl__law_command⟩)
    (e__law_command : PySem.W.codeIn K cd__law_command "_law_command" = true)
    (k__law_command : PySem.W.keepIn K (.ref f__law_command) = true)
    (a__law_commands : PySem.W.nsIn K mainGlobals "_law_commands" = some (some (.ref f__law_commands)))
    (l__law_commands : K.lookup f__law_commands = some ⟨oc__law_commands, od__law_commands, .func (PySem.W.fnOf "_law_commands" "_law_commands" (defArgs s__law_commands) (defBody s__law_commands) (defScope s__law_commands) .none kV__law_commands dc__law_commands pm__law_commands an__law_commands cd__law_commands ct__law_commands), sl__law_commands⟩)
    (e__law_commands : PySem.W.codeIn K cd__law_commands "_law_commands" = true)
    (k__law_commands : PySem.W.keepIn K (.ref f__law_commands) = true)
    (a__law_block : PySem.W.nsIn K mainGlobals "_law_block" = some (some (.ref f__law_block)))
    (l__law_block : K.lookup f__law_block = some ⟨oc__law_block, od__law_block, .func (PySem.W.fnOf "_law_block" "_law_block" (defArgs s__law_block) (defBody s__law_block) (defScope s__law_block) .none kV__law_block dc__law_block pm__law_block an__law_block cd__law_block ct__law_block), sl__law_block⟩)
    (e__law_block : PySem.W.codeIn K cd__law_block "_law_block" = true)
    (k__law_block : PySem.W.keepIn K (.ref f__law_block) = true)
    (a__law_truth : PySem.W.nsIn K mainGlobals "_law_truth" = some (some (.ref f__law_truth)))
    (l__law_truth : K.lookup f__law_truth = some ⟨oc__law_truth, od__law_truth, .func (PySem.W.fnOf "_law_truth" "_law_truth" (defArgs s__law_truth) (defBody s__law_truth) (defScope s__law_truth) .none kV__law_truth dc__law_truth pm__law_truth an__law_truth cd__law_truth ct__law_truth), sl__law_truth⟩)
    (e__law_truth : PySem.W.codeIn K cd__law_truth "_law_truth" = true)
    (k__law_truth : PySem.W.keepIn K (.ref f__law_truth) = true)
    (a__law_bad_block : PySem.W.nsIn K mainGlobals "_law_bad_block" = some (some (.ref f__law_bad_block)))
    (l__law_bad_block : K.lookup f__law_bad_block = some ⟨oc__law_bad_block, od__law_bad_block, .func (PySem.W.fnOf "_law_bad_block" "_law_bad_block" (defArgs s__law_bad_block) (defBody s__law_bad_block) (defScope s__law_bad_block) .none kV__law_bad_block dc__law_bad_block pm__law_bad_block an__law_bad_block cd__law_bad_block ct__law_bad_block), sl__law_bad_block⟩)
    (e__law_bad_block : PySem.W.codeIn K cd__law_bad_block "_law_bad_block" = true)
    (k__law_bad_block : PySem.W.keepIn K (.ref f__law_bad_block) = true)
    (a__law_refused : PySem.W.nsIn K mainGlobals "_law_refused" = some (some (.ref f__law_refused)))
    (l__law_refused : K.lookup f__law_refused = some ⟨oc__law_refused, od__law_refused, .func (PySem.W.fnOf "_law_refused" "_law_refused" (defArgs s__law_refused) (defBody s__law_refused) (defScope s__law_refused) .none kV__law_refused dc__law_refused pm__law_refused an__law_refused cd__law_refused ct__law_refused), sl__law_refused⟩)
    (e__law_refused : PySem.W.codeIn K cd__law_refused "_law_refused" = true)
    (k__law_refused : PySem.W.keepIn K (.ref f__law_refused) = true)
    (a__law_found : PySem.W.nsIn K mainGlobals "_law_found" = some (some (.ref f__law_found)))
    (l__law_found : K.lookup f__law_found = some ⟨oc__law_found, od__law_found, .func (PySem.W.fnOf "_law_found" "_law_found" (defArgs s__law_found) (defBody s__law_found) (defScope s__law_found) .none kV__law_found dc__law_found pm__law_found an__law_found cd__law_found ct__law_found), sl__law_found⟩)
    (e__law_found : PySem.W.codeIn K cd__law_found "_law_found" = true)
    (k__law_found : PySem.W.keepIn K (.ref f__law_found) = true)
    (a__law_children : PySem.W.nsIn K mainGlobals "_law_children" = some (some (.ref f__law_children)))
    (l__law_children : K.lookup f__law_children = some ⟨oc__law_children, od__law_children, .func (PySem.W.fnOf "_law_children" "_law_children" (defArgs s__law_children) (defBody s__law_children) (defScope s__law_children) .none kV__law_children dc__law_children pm__law_children an__law_children cd__law_children ct__law_children), sl__law_children⟩)
    (e__law_children : PySem.W.codeIn K cd__law_children "_law_children" = true)
    (k__law_children : PySem.W.keepIn K (.ref f__law_children) = true)
    (a_law : PySem.W.nsIn K mainGlobals "law" = some (some (.ref f_law)))
    (l_law : K.lookup f_law = some ⟨oc_law, od_law, .func (PySem.W.fnOf "law" "law" (defArgs s_law) (defBody s_law) (defScope s_law) .none kV_law dc_law pm_law an_law cd_law ct_law), sl_law⟩)
    (e_law : PySem.W.codeIn K cd_law "law" = true)
    (k_law : PySem.W.keepIn K (.ref f_law) = true)
    (xa_BadBlock : PySem.W.nsIn K mainGlobals "BadBlock" = some (some (.ref C_BadBlock)))
    (xe_BadBlock : PySem.W.excIn K C_BadBlock [.type "ValueError", .type "Exception", .type "BaseException", .type "object"] "ValueError.__new__" = true)
    (xk_BadBlock : PySem.W.keepIn K (.ref C_BadBlock) = true)
    (xb_BadBlock : PySem.W.subIn K (.ref C_BadBlock) (.type "BaseException") = some true)
    (xt_BadBlock : PySem.W.typeIn K (.ref C_BadBlock) = some (.type "type"))
    (xh_BadBlock : PySem.W.hasDictIn K C_BadBlock = true)
    (xa_LedgerError : PySem.W.nsIn K mainGlobals "LedgerError" = some (some (.ref C_LedgerError)))
    (xe_LedgerError : PySem.W.excIn K C_LedgerError [.type "ValueError", .type "Exception", .type "BaseException", .type "object"] "ValueError.__new__" = true)
    (xk_LedgerError : PySem.W.keepIn K (.ref C_LedgerError) = true)
    (xb_LedgerError : PySem.W.subIn K (.ref C_LedgerError) (.type "BaseException") = some true)
    (xt_LedgerError : PySem.W.typeIn K (.ref C_LedgerError) = some (.type "type"))
    (xh_LedgerError : PySem.W.hasDictIn K C_LedgerError = true)
    (ehg_BadBlock : PySem.W.findIn K (.ref C_BadBlock) "__getattribute__" = some (some (.builtin "BaseException.__getattribute__")))
    (ehk_BadBlock : PySem.W.findIn K (.ref C_BadBlock) "__getattr__" = some none)
    (eha_BadBlock : PySem.W.findIn K (.ref C_BadBlock) "__class__" = some (some (.builtin "object.__class__")))
    (ehm_BadBlock : PySem.W.mroIn K C_BadBlock (.type "object") = some true)
    (ehn_BadBlock : PySem.W.specialIn K (.builtin "object.__class__") "__get__" = some (some (.builtin "getset_descriptor.__get__")))
    (eht_BadBlock : PySem.W.takesIn K (.builtin "object.__class__") = some true)
    (skt_BadBlock_LedgerError : PySem.W.subIn K (.ref C_BadBlock) (.ref C_LedgerError) = some true)
    (a_GENESIS : PySem.W.nsIn K mainGlobals "GENESIS" = some (some (.ref C_GENESIS)))
    (l_GENESIS : K.lookup C_GENESIS = some ⟨.type "tuple", od_GENESIS, .seq #[.int 0 t_GENESIS_0, .int 0 t_GENESIS_1, .int 0 t_GENESIS_2, .ref C_GENESIS_3] n_GENESIS, sl_GENESIS⟩)
    (l_GENESIS_3 : K.lookup C_GENESIS_3 = some ⟨.type "tuple", od_GENESIS_3, .seq #[] n_GENESIS_3, sl_GENESIS_3⟩)
    (u_BadBlock_BadBlock : PySem.W.subIn K (.ref C_BadBlock) (.ref C_BadBlock) = some true)
    (a_MOST_CLIENTS : PySem.W.nsIn K mainGlobals "MOST_CLIENTS" = some (some (.int 100 t_MOST_CLIENTS)))
    (a_MOST_NUMBER : PySem.W.nsIn K mainGlobals "MOST_NUMBER" = some (some (.int 1000000000000 t_MOST_NUMBER)))
    (a_MOST_TEXT : PySem.W.nsIn K mainGlobals "MOST_TEXT" = some (some (.int 240 t_MOST_TEXT)))
    (z_abs : PySem.W.nsIn K mainGlobals "abs" = some none)
    (z_bool : PySem.W.nsIn K mainGlobals "bool" = some none)
    (z_int : PySem.W.nsIn K mainGlobals "int" = some none)
    (z_isinstance : PySem.W.nsIn K mainGlobals "isinstance" = some none)
    (z_len : PySem.W.nsIn K mainGlobals "len" = some none)
    (z_list : PySem.W.nsIn K mainGlobals "list" = some none)
    (z_max : PySem.W.nsIn K mainGlobals "max" = some none)
    (z_min : PySem.W.nsIn K mainGlobals "min" = some none)
    (z_range : PySem.W.nsIn K mainGlobals "range" = some none)
    (z_str : PySem.W.nsIn K mainGlobals "str" = some none)
    (z_tuple : PySem.W.nsIn K mainGlobals "tuple" = some none) : Txt K mg C_BadBlock C_LedgerError C_GENESIS C_GENESIS_3 :=
  { d_is_integer := ⟨_, _, (fun_mk l_is_integer e_is_integer k_is_integer), PySem.W.mg_of X G a_is_integer, ((fun_mk (st := s_is_integer) l_is_integer e_is_integer k_is_integer).binds (ps := ["value", "least", "greatest"]) fun _ _ _ _ _ _ us hl => match us, hl with | [_, _, _], _ => rfl)⟩,
    d_is_printable := ⟨_, _, (fun_mk l_is_printable e_is_printable k_is_printable), PySem.W.mg_of X G a_is_printable, ((fun_mk (st := s_is_printable) l_is_printable e_is_printable k_is_printable).binds (ps := ["value"]) fun _ _ _ _ _ _ us hl => match us, hl with | [_], _ => rfl)⟩,
    d_is_short := ⟨_, _, (fun_mk l_is_short e_is_short k_is_short), PySem.W.mg_of X G a_is_short, ((fun_mk (st := s_is_short) l_is_short e_is_short k_is_short).binds (ps := ["value", "most"]) fun _ _ _ _ _ _ us hl => match us, hl with | [_, _], _ => rfl)⟩,
    d_is_client := ⟨_, _, (fun_mk l_is_client e_is_client k_is_client), PySem.W.mg_of X G a_is_client, ((fun_mk (st := s_is_client) l_is_client e_is_client k_is_client).binds (ps := ["value"]) fun _ _ _ _ _ _ us hl => match us, hl with | [_], _ => rfl)⟩,
    d_is_number := ⟨_, _, (fun_mk l_is_number e_is_number k_is_number), PySem.W.mg_of X G a_is_number, ((fun_mk (st := s_is_number) l_is_number e_is_number k_is_number).binds (ps := ["value"]) fun _ _ _ _ _ _ us hl => match us, hl with | [_], _ => rfl)⟩,
    d_is_command := ⟨_, _, (fun_mk l_is_command e_is_command k_is_command), PySem.W.mg_of X G a_is_command, ((fun_mk (st := s_is_command) l_is_command e_is_command k_is_command).binds (ps := ["value"]) fun _ _ _ _ _ _ us hl => match us, hl with | [_], _ => rfl)⟩,
    d_is_command_list := ⟨_, _, (fun_mk l_is_command_list e_is_command_list k_is_command_list), PySem.W.mg_of X G a_is_command_list, ((fun_mk (st := s_is_command_list) l_is_command_list e_is_command_list k_is_command_list).binds (ps := ["value"]) fun _ _ _ _ _ _ us hl => match us, hl with | [_], _ => rfl)⟩,
    d_is_block := ⟨_, _, (fun_mk l_is_block e_is_block k_is_block), PySem.W.mg_of X G a_is_block, ((fun_mk (st := s_is_block) l_is_block e_is_block k_is_block).binds (ps := ["value"]) fun _ _ _ _ _ _ us hl => match us, hl with | [_], _ => rfl)⟩,
    d_is_height_above := ⟨_, _, (fun_mk l_is_height_above e_is_height_above k_is_height_above), PySem.W.mg_of X G a_is_height_above, ((fun_mk (st := s_is_height_above) l_is_height_above e_is_height_above k_is_height_above).binds (ps := ["parent", "height"]) fun _ _ _ _ _ _ us hl => match us, hl with | [_, _], _ => rfl)⟩,
    d_is_genesis := ⟨_, _, (fun_mk l_is_genesis e_is_genesis k_is_genesis), PySem.W.mg_of X G a_is_genesis, ((fun_mk (st := s_is_genesis) l_is_genesis e_is_genesis k_is_genesis).binds (ps := ["value"]) fun _ _ _ _ _ _ us hl => match us, hl with | [_], _ => rfl)⟩,
    d_check_block := ⟨_, _, (fun_mk l_check_block e_check_block k_check_block), PySem.W.mg_of X G a_check_block, ((fun_mk (st := s_check_block) l_check_block e_check_block k_check_block).binds (ps := ["value"]) fun _ _ _ _ _ _ us hl => match us, hl with | [_], _ => rfl)⟩,
    d_follows := ⟨_, _, (fun_mk l_follows e_follows k_follows), PySem.W.mg_of X G a_follows, ((fun_mk (st := s_follows) l_follows e_follows k_follows).binds (ps := ["block", "parent"]) fun _ _ _ _ _ _ us hl => match us, hl with | [_, _], _ => rfl)⟩,
    d_command_of := ⟨_, _, (fun_mk l_command_of e_command_of k_command_of), PySem.W.mg_of X G a_command_of, ((fun_mk (st := s_command_of) l_command_of e_command_of k_command_of).binds (ps := ["block", "client"]) fun _ _ _ _ _ _ us hl => match us, hl with | [_, _], _ => rfl)⟩,
    d__law_draws := ⟨_, _, (fun_mk l__law_draws e__law_draws k__law_draws), PySem.W.mg_of X G a__law_draws, ((fun_mk (st := s__law_draws) l__law_draws e__law_draws k__law_draws).binds (ps := ["script"]) fun _ _ _ _ _ _ us hl => match us, hl with | [_], _ => rfl)⟩,
    d__law_next := ⟨_, _, (fun_mk l__law_next e__law_next k__law_next), PySem.W.mg_of X G a__law_next, ((fun_mk (st := s__law_next) l__law_next e__law_next k__law_next).binds (ps := ["draws", "at", "many"]) fun _ _ _ _ _ _ us hl => match us, hl with | [_, _, _], _ => rfl)⟩,
    d__law_big := ⟨_, _, (fun_mk l__law_big e__law_big k__law_big), PySem.W.mg_of X G a__law_big, ((fun_mk (st := s__law_big) l__law_big e__law_big k__law_big).binds (ps := ["draws", "at", "many"]) fun _ _ _ _ _ _ us hl => match us, hl with | [_, _, _], _ => rfl)⟩,
    d__law_char := ⟨_, _, (fun_mk l__law_char e__law_char k__law_char), PySem.W.mg_of X G a__law_char, ((fun_mk (st := s__law_char) l__law_char e__law_char k__law_char).binds (ps := ["number"]) fun _ _ _ _ _ _ us hl => match us, hl with | [_], _ => rfl)⟩,
    d__law_string := ⟨_, _, (fun_mk l__law_string e__law_string k__law_string), PySem.W.mg_of X G a__law_string, ((fun_mk (st := s__law_string) l__law_string e__law_string k__law_string).binds (ps := ["draws", "at", "most"]) fun _ _ _ _ _ _ us hl => match us, hl with | [_, _, _], _ => rfl)⟩,
    d__law_command := ⟨_, _, (fun_mk l__law_command e__law_command k__law_command), PySem.W.mg_of X G a__law_command, ((fun_mk (st := s__law_command) l__law_command e__law_command k__law_command).binds (ps := ["draws", "at", "client"]) fun _ _ _ _ _ _ us hl => match us, hl with | [_, _, _], _ => rfl)⟩,
    d__law_commands := ⟨_, _, (fun_mk l__law_commands e__law_commands k__law_commands), PySem.W.mg_of X G a__law_commands, ((fun_mk (st := s__law_commands) l__law_commands e__law_commands k__law_commands).binds (ps := ["draws", "at", "most"]) fun _ _ _ _ _ _ us hl => match us, hl with | [_, _, _], _ => rfl)⟩,
    d__law_block := ⟨_, _, (fun_mk l__law_block e__law_block k__law_block), PySem.W.mg_of X G a__law_block, ((fun_mk (st := s__law_block) l__law_block e__law_block k__law_block).binds (ps := ["draws", "at", "most"]) fun _ _ _ _ _ _ us hl => match us, hl with | [_, _, _], _ => rfl)⟩,
    d__law_truth := ⟨_, _, (fun_mk l__law_truth e__law_truth k__law_truth), PySem.W.mg_of X G a__law_truth, ((fun_mk (st := s__law_truth) l__law_truth e__law_truth k__law_truth).binds (ps := ["actual", "expected"]) fun _ _ _ _ _ _ us hl => match us, hl with | [_, _], _ => rfl)⟩,
    d__law_bad_block := ⟨_, _, (fun_mk l__law_bad_block e__law_bad_block k__law_bad_block), PySem.W.mg_of X G a__law_bad_block, ((fun_mk (st := s__law_bad_block) l__law_bad_block e__law_bad_block k__law_bad_block).binds (ps := ["block", "draws", "at"]) fun _ _ _ _ _ _ us hl => match us, hl with | [_, _, _], _ => rfl)⟩,
    d__law_refused := ⟨_, _, (fun_mk l__law_refused e__law_refused k__law_refused), PySem.W.mg_of X G a__law_refused, ((fun_mk (st := s__law_refused) l__law_refused e__law_refused k__law_refused).binds (ps := ["value"]) fun _ _ _ _ _ _ us hl => match us, hl with | [_], _ => rfl)⟩,
    d__law_found := ⟨_, _, (fun_mk l__law_found e__law_found k__law_found), PySem.W.mg_of X G a__law_found, ((fun_mk (st := s__law_found) l__law_found e__law_found k__law_found).binds (ps := ["block"]) fun _ _ _ _ _ _ us hl => match us, hl with | [_], _ => rfl)⟩,
    d__law_children := ⟨_, _, (fun_mk l__law_children e__law_children k__law_children), PySem.W.mg_of X G a__law_children, ((fun_mk (st := s__law_children) l__law_children e__law_children k__law_children).binds (ps := ["block", "draws", "at"]) fun _ _ _ _ _ _ us hl => match us, hl with | [_, _, _], _ => rfl)⟩,
    d_law := ⟨_, _, (fun_mk l_law e_law k_law), PySem.W.mg_of X G a_law, ((fun_mk (st := s_law) l_law e_law k_law).binds (ps := ["script"]) fun _ _ _ _ _ _ us hl => match us, hl with | [_], _ => rfl)⟩,
    x_BadBlock := ⟨xe_BadBlock, PySem.W.mg_of X G xa_BadBlock, xk_BadBlock, xb_BadBlock, xt_BadBlock, xh_BadBlock⟩,
    x_LedgerError := ⟨xe_LedgerError, PySem.W.mg_of X G xa_LedgerError, xk_LedgerError, xb_LedgerError, xt_LedgerError, xh_LedgerError⟩,
    ec_BadBlock := ⟨ehg_BadBlock, ehk_BadBlock, xb_BadBlock, xh_BadBlock, eha_BadBlock, ehn_BadBlock, eht_BadBlock, ehm_BadBlock⟩,
    kt_BadBlock_LedgerError := kit_own xb_LedgerError xt_LedgerError skt_BadBlock_LedgerError,
    g_GENESIS := PySem.W.mg_of X G a_GENESIS,
    k_GENESIS := ⟨_, _, _, l_GENESIS, rfl, rfl, sz1000 (Nat.le_of_ble_eq_true rfl), (.cons ⟨_, rfl⟩ (.cons ⟨_, rfl⟩ (.cons ⟨_, rfl⟩ (.cons rfl .nil))))⟩,
    k_GENESIS_3 := ⟨_, _, _, l_GENESIS_3, rfl, rfl, sz1000 (Nat.le_of_ble_eq_true rfl), .nil⟩,
    u_BadBlock_BadBlock := u_BadBlock_BadBlock,
    c_MOST_CLIENTS := ⟨_, PySem.W.mg_of X G a_MOST_CLIENTS, _, rfl⟩,
    c_MOST_NUMBER := ⟨_, PySem.W.mg_of X G a_MOST_NUMBER, _, rfl⟩,
    c_MOST_TEXT := ⟨_, PySem.W.mg_of X G a_MOST_TEXT, _, rfl⟩,
    z_abs := PySem.W.mg_none_of X G z_abs,
    z_bool := PySem.W.mg_none_of X G z_bool,
    z_int := PySem.W.mg_none_of X G z_int,
    z_isinstance := PySem.W.mg_none_of X G z_isinstance,
    z_len := PySem.W.mg_none_of X G z_len,
    z_list := PySem.W.mg_none_of X G z_list,
    z_max := PySem.W.mg_none_of X G z_max,
    z_min := PySem.W.mg_none_of X G z_min,
    z_range := PySem.W.mg_none_of X G z_range,
    z_str := PySem.W.mg_none_of X G z_str,
    z_tuple := PySem.W.mg_none_of X G z_tuple }
end Law
open PySem PySem.W PyProof.Rows
set_option maxRecDepth 100000 in
set_option maxHeartbeats 0 in
theorem PySem.Challenge.cw_oathledger_k09_blocks_holds : PySem.Challenge.rw_oathledger_k09_blocks.Holds := by
  w_on; o_law; k_head; (case hw => w_witness2)
  k_fill
  refine L2.walk_of (l := PySem.Challenge.rw_oathledger_k09_blocks) (n := 63) (k := 8) (x := "script") (CX := fun _ => L2.CX0) (sp := fun w => Law.spLaw _) rfl (by decide) rfl ⟨rfl, by decide, by decide⟩ (fun w h Y => PySem.W.kIn_of Y) ?F (fun _ _ a ns hl _ hS => ⟨a, ns, rfl, hS, hl, fun _ => rfl⟩) (fun _ _ _ _ _ h => h)
  case F =>
    intro w mg fa h KX G hmg
    refine' Law.fin hmg (Law.all_mk KX G ?a_is_integer ?l_is_integer ?e_is_integer ?k_is_integer ?a_is_printable ?l_is_printable ?e_is_printable ?k_is_printable ?a_is_short ?l_is_short ?e_is_short ?k_is_short ?a_is_client ?l_is_client ?e_is_client ?k_is_client ?a_is_number ?l_is_number ?e_is_number ?k_is_number ?a_is_command ?l_is_command ?e_is_command ?k_is_command ?a_is_command_list ?l_is_command_list ?e_is_command_list ?k_is_command_list ?a_is_block ?l_is_block ?e_is_block ?k_is_block ?a_is_height_above ?l_is_height_above ?e_is_height_above ?k_is_height_above ?a_is_genesis ?l_is_genesis ?e_is_genesis ?k_is_genesis ?a_check_block ?l_check_block ?e_check_block ?k_check_block ?a_follows ?l_follows ?e_follows ?k_follows ?a_command_of ?l_command_of ?e_command_of ?k_command_of ?a__law_draws ?l__law_draws ?e__law_draws ?k__law_draws ?a__law_next ?l__law_next ?e__law_next ?k__law_next ?a__law_big ?l__law_big ?e__law_big ?k__law_big ?a__law_char ?l__law_char ?e__law_char ?k__law_char ?a__law_string ?l__law_string ?e__law_string ?k__law_string ?a__law_command ?l__law_command ?e__law_command ?k__law_command ?a__law_commands ?l__law_commands ?e__law_commands ?k__law_commands ?a__law_block ?l__law_block ?e__law_block ?k__law_block ?a__law_truth ?l__law_truth ?e__law_truth ?k__law_truth ?a__law_bad_block ?l__law_bad_block ?e__law_bad_block ?k__law_bad_block ?a__law_refused ?l__law_refused ?e__law_refused ?k__law_refused ?a__law_found ?l__law_found ?e__law_found ?k__law_found ?a__law_children ?l__law_children ?e__law_children ?k__law_children ?a_law ?l_law ?e_law ?k_law ?xa_BadBlock ?xe_BadBlock ?xk_BadBlock ?xb_BadBlock ?xt_BadBlock ?xh_BadBlock ?xa_LedgerError ?xe_LedgerError ?xk_LedgerError ?xb_LedgerError ?xt_LedgerError ?xh_LedgerError ?ehg_BadBlock ?ehk_BadBlock ?eha_BadBlock ?ehm_BadBlock ?ehn_BadBlock ?eht_BadBlock ?skt_BadBlock_LedgerError ?a_GENESIS ?l_GENESIS ?l_GENESIS_3 ?u_BadBlock_BadBlock ?a_MOST_CLIENTS ?a_MOST_NUMBER ?a_MOST_TEXT ?z_abs ?z_bool ?z_int ?z_isinstance ?z_len ?z_list ?z_max ?z_min ?z_range ?z_str ?z_tuple)
    (case a_is_integer => k_is)
    (case l_is_integer => k_is)
    (case e_is_integer => k_is)
    (case k_is_integer => k_is)
    (case a_is_printable => k_is)
    (case l_is_printable => k_is)
    (case e_is_printable => k_is)
    (case k_is_printable => k_is)
    (case a_is_short => k_is)
    (case l_is_short => k_is)
    (case e_is_short => k_is)
    (case k_is_short => k_is)
    (case a_is_client => k_is)
    (case l_is_client => k_is)
    (case e_is_client => k_is)
    (case k_is_client => k_is)
    (case a_is_number => k_is)
    (case l_is_number => k_is)
    (case e_is_number => k_is)
    (case k_is_number => k_is)
    (case a_is_command => k_is)
    (case l_is_command => k_is)
    (case e_is_command => k_is)
    (case k_is_command => k_is)
    (case a_is_command_list => k_is)
    (case l_is_command_list => k_is)
    (case e_is_command_list => k_is)
    (case k_is_command_list => k_is)
    (case a_is_block => k_is)
    (case l_is_block => k_is)
    (case e_is_block => k_is)
    (case k_is_block => k_is)
    (case a_is_height_above => k_is)
    (case l_is_height_above => k_is)
    (case e_is_height_above => k_is)
    (case k_is_height_above => k_is)
    (case a_is_genesis => k_is)
    (case l_is_genesis => k_is)
    (case e_is_genesis => k_is)
    (case k_is_genesis => k_is)
    (case a_check_block => k_is)
    (case l_check_block => k_is)
    (case e_check_block => k_is)
    (case k_check_block => k_is)
    (case a_follows => k_is)
    (case l_follows => k_is)
    (case e_follows => k_is)
    (case k_follows => k_is)
    (case a_command_of => k_is)
    (case l_command_of => k_is)
    (case e_command_of => k_is)
    (case k_command_of => k_is)
    (case a__law_draws => k_is)
    (case l__law_draws => k_is)
    (case e__law_draws => k_is)
    (case k__law_draws => k_is)
    (case a__law_next => k_is)
    (case l__law_next => k_is)
    (case e__law_next => k_is)
    (case k__law_next => k_is)
    (case a__law_big => k_is)
    (case l__law_big => k_is)
    (case e__law_big => k_is)
    (case k__law_big => k_is)
    (case a__law_char => k_is)
    (case l__law_char => k_is)
    (case e__law_char => k_is)
    (case k__law_char => k_is)
    (case a__law_string => k_is)
    (case l__law_string => k_is)
    (case e__law_string => k_is)
    (case k__law_string => k_is)
    (case a__law_command => k_is)
    (case l__law_command => k_is)
    (case e__law_command => k_is)
    (case k__law_command => k_is)
    (case a__law_commands => k_is)
    (case l__law_commands => k_is)
    (case e__law_commands => k_is)
    (case k__law_commands => k_is)
    (case a__law_block => k_is)
    (case l__law_block => k_is)
    (case e__law_block => k_is)
    (case k__law_block => k_is)
    (case a__law_truth => k_is)
    (case l__law_truth => k_is)
    (case e__law_truth => k_is)
    (case k__law_truth => k_is)
    (case a__law_bad_block => k_is)
    (case l__law_bad_block => k_is)
    (case e__law_bad_block => k_is)
    (case k__law_bad_block => k_is)
    (case a__law_refused => k_is)
    (case l__law_refused => k_is)
    (case e__law_refused => k_is)
    (case k__law_refused => k_is)
    (case a__law_found => k_is)
    (case l__law_found => k_is)
    (case e__law_found => k_is)
    (case k__law_found => k_is)
    (case a__law_children => k_is)
    (case l__law_children => k_is)
    (case e__law_children => k_is)
    (case k__law_children => k_is)
    (case a_law => k_is)
    (case l_law => k_is)
    (case e_law => k_is)
    (case k_law => k_is)
    (case xa_BadBlock => k_is)
    (case xe_BadBlock => first | k_is | k_exc)
    (case xk_BadBlock => k_is)
    (case xb_BadBlock => k_is)
    (case xt_BadBlock => k_is)
    (case xh_BadBlock => k_is)
    (case xa_LedgerError => k_is)
    (case xe_LedgerError => first | k_is | k_exc)
    (case xk_LedgerError => k_is)
    (case xb_LedgerError => k_is)
    (case xt_LedgerError => k_is)
    (case xh_LedgerError => k_is)
    (case ehg_BadBlock => k_is)
    (case ehk_BadBlock => k_is)
    (case eha_BadBlock => k_is)
    (case ehm_BadBlock => k_is)
    (case ehn_BadBlock => k_is)
    (case eht_BadBlock => k_is)
    (case skt_BadBlock_LedgerError => k_is)
    (case a_GENESIS => k_is)
    (case l_GENESIS => k_is)
    (case l_GENESIS_3 => k_is)
    (case u_BadBlock_BadBlock => k_is)
    (case a_MOST_CLIENTS => k_is)
    (case a_MOST_NUMBER => k_is)
    (case a_MOST_TEXT => k_is)
    (case z_abs => k_is)
    (case z_bool => k_is)
    (case z_int => k_is)
    (case z_isinstance => k_is)
    (case z_len => k_is)
    (case z_list => k_is)
    (case z_max => k_is)
    (case z_min => k_is)
    (case z_range => k_is)
    (case z_str => k_is)
    (case z_tuple => k_is)

