import PyProof.Rows.All
import Wide.All
import OpenK.AllK
import Wide.FinOn
import HandS.ForMost
import HandS.Walk
import HandS.Flow
import HandS.Codes
import HandS.IsInst
import HandS.Conv
import HandS.StrMore
import PyProof.MeetsSeq2
import PyProof.DictTable
import HandS.Wide
import HandS.TupAny
import HandS.More
import HandS.Dict
import HandS.ForExc
import HandS.ExcIs
import HandS.ExcField
import HandS.DeepEq
import HandS.TupLe
import HandS.Steps
import HandS.ExcInit
import HandS.SortRule
import HandS.RaiseMore
import HandS.Zip
import PySem.Challenge.RW_oathledger_k35_numbers_along_a_path
set_option Elab.async false
set_option linter.all false
set_option maxRecDepth 100000
set_option maxHeartbeats 4000000
namespace Law
open PySem PySem.Spec PyProof.Rows L2
open C8 (Cal Met Mak pe_c pe_mk pe_mt pe_mt0 pe_gc pss_cut tCut)
/-! ### a def of the top, by its name -/
structure DefOk (K : PySem.W.Frag) (mg : Str → Option Value) (x : Str) (st : Stmt) (ps : List Str) : Prop where
  ex : ∃ (f : Addr) (fd : FuncData), L2.Fun K x x st f fd ∧ mg x = some (.ref f) ∧ Binds K fd ps []
section
variable {P : Program} {w : World} {K : PySem.W.Frag} {mg : Str → Option Value} {base : Heap}
/-- a def's promise, by its body -/
theorem cal {x : Str} {st : Stmt} {N ps : List Str} {k : Nat} {sp : Sp} (D : DefOk K mg x st ps) (S : FnScope N ps (defScope st)) (len : ∀ vs H Q E, sp vs H Q E → vs.length = ps.length)
    (hbody : ∀ (f : Addr) (cdv : Value) (A : Around) (outer : List Env) (s : Shared) (H : Hp) (vs : List V) (Q : VK) (E : XK), Room k (A.deeper (envOfC x (defScope st) s.heap.objs.size f cdv)) → sp vs H Q E →
      ∃ t, PSs (cxOf L2.CX0 P w K mg base N x (defScope st) f cdv A outer s H E).nox (defBody st) t ∧ t { nx := fun _ H' => Q .non H', rt := Q } (start N vs) H) : Cal P w K mg base (k + 1) x sp [] := by
  obtain ⟨f, fd, F, hm, b⟩ := D.ex
  exact ⟨f, fd, ps, [], F.ok S len (fun cdv A outer s H vs Q E hr h => hbody f cdv A outer s H vs Q E hr h), hm, F.kp, b, .nil⟩
/-- a call without arguments -/
theorem pe_c0 {X : Cx} {k j : Nat} {x : Str} {sp : Sp} {dvs : List V} {p pos : Pos} (c : Cal X.prog X.w X.K X.mg X.base k x sp dvs) (hr : Room j X.A) (hk : k ≤ j) (hg : Gl X x)
    (hdb : (x == ("__debug__" : Str)) = false := by decide) : PE X (.Call (.Name x p) [] [] pos) (tCall sp dvs L2.E0 tNil) := by
  obtain ⟨f, fd, ps, ds, F, hm, kp, b, d⟩ := c.ex
  exact pe_call0 F (hr.mono hk) hg hm kp b d pass0 hdb
end
/-! ### small things -/
theorem same_upd {H : Hp} {p : Addr} {o : HO} (h : H p = none) : Same H (upd H p o) := fun b x e => by
  rw [upd_ne (ne_of_none e h)]
  exact e
theorem same_mut {H H' : Hp} {p : Addr} {o : HO} (s : Same H H') (h : H p = none) : Same H (upd H' p o) := fun b x e => by
  rw [upd_ne (ne_of_none e h)]
  exact s b x e
theorem sz1000 {n : Nat} (h : n ≤ 100000) : n ≤ sizeLine := Nat.le_trans h (by decide)
theorem sz1000' {n : Nat} (h : n < 100000) : n < sizeLine := Nat.lt_of_lt_of_le h (by decide)
theorem sz1000'' {n : Nat} (h : n ≤ 16777216) : n ≤ sizeLine := by rw [sizeLine_eq]; exact h
theorem sq {K : PySem.W.Frag} {H : Hp} {a : Addr} {xs : List V} (h : H a = some (.lst xs)) : SqL K H a xs := .inl (.inl h)
def spLaw (K : PySem.W.Frag) : Sp := fun vs H Q _ => ∃ (a : Addr) (ns : List Int), vs = [.ref a] ∧ SqL K H a (ns.map V.int) ∧ ns.length ≤ 63 ∧ ∀ H', Q (.bl true) H'
/-! ### the reading, step by step -/
local macro_rules | `(tactic| walk_at "sd") => `(tactic| first
  | omega
  | decide
  | assumption
  | (show _ ∨ _; exact Or.inl ⟨by omega, by omega⟩)
  | (show _ ∨ _; exact Or.inr ⟨by omega, by omega⟩)
  | (show _ ∧ _; exact ⟨by omega, by omega⟩)
  | (show _ ∧ _; exact ⟨by decide, by decide⟩)
  | exact sz1000 (by omega)
  | exact sz1000' (by omega))
local macro_rules | `(tactic| walk_at "sz") => `(tactic| first
  | exact sz1000 (Nat.le_of_ble_eq_true rfl)
  | exact sz1000 (by omega)
  | exact sz1000'' (by omega)
  | assumption)
/-- one step of a reading: a slot, an operator upon numbers, a call upon values -/
local macro_rules | `(tactic| walk_at "rd") => `(tactic| first
  | refine ⟨_, (rfl : (_ : List (Option V))[_]? = some (some _)), ?_⟩
  | refine ⟨_, _, (rfl : (_ : V) = _), (rfl : (_ : V) = _), (by walk_at "sd" : (_ : Prop)), ?_⟩
  | refine ⟨_, _, (rfl : (_ : V) = _), (rfl : (_ : V) = _), ?_⟩
  | refine ⟨_, (rfl : (_ : List V) = _), (by walk_at "sd" : (_ : Prop)), (by walk_at "sd" : (_ : Prop)), ?_⟩
  | refine ⟨_, (rfl : (_ : List V) = _), ?_⟩
  | refine ⟨_, (rfl : (_ : V) = _), ?_⟩
  | refine .inl ⟨_, (rfl : (_ : List V) = _), ?_⟩
  | refine ⟨⟨_, (rfl : (_ : V) = _)⟩, ?_⟩
  | refine ⟨(rfl : scal _ _ = true), ?_⟩
  | refine ⟨(rfl : V.non = V.non), ?_⟩
  | refine ⟨(by walk_at "sz" : (_ ≤ sizeLine)), ?_⟩)
local macro_rules | `(tactic| walk_at "rds") => `(tactic| repeat walk_at "rd")
theorem tyes {σ : L2.St} {H : Hp} {A B : Hp → Prop} (h : A H) : tYes σ H (fun b H3 => if b = true then A H3 else B H3) := by
  show (if true = true then A H else B H)
  rw [if_pos rfl]
  exact h
theorem sum_ones {ys : List Str} (h : ∀ y ∈ ys, y.length = 1) : (ys.map (fun x => x.length)).sum = ys.length := by
  induction ys with
  | nil => rfl
  | cons y r ih =>
    rw [List.map_cons, List.sum_cons, ih (fun z hz => h z (List.mem_cons_of_mem _ hz)), h y List.mem_cons_self, List.length_cons]
    omega
theorem chr_at {z : Str} {i : Int} (h0 : 0 ≤ i) (h1 : i < z.length) : ∃ c, atI z.cps.toList i = some c := by
  obtain ⟨j, rfl⟩ := Int.eq_ofNat_of_zero_le h0
  have hj : j < z.cps.toList.length := by
    rw [Array.length_toList]
    exact Int.ofNat_lt.mp h1
  exact ⟨z.cps.toList[j], atI_nat (List.getElem?_eq_getElem hj)⟩
/-- what an append to a tracked new list leaves -/
theorem lst_app {α : Type} {H : Hp} {D : Addr} {f : α → V} {ys : List α} {y : α} : upd H D (.lst (ys.map f ++ [f y])) D = some (.lst ((ys ++ [y]).map f)) := by
  rw [upd_same, List.map_append]
  rfl
theorem rg40 {n : Nat} (h : n ≤ 100000) : RgC 0 n 40 ((n + 39) / 40) := by
  have e : Builtin.Range.rangeSize 0 (n : Int) 40 = (((n + 39) / 40 : Nat) : Int) := by
    rw [rangeSize_pos (by decide) (by omega)]
    omega
  refine ⟨by decide, by decide, ?_, e⟩
  unfold Builtin.Range.small
  rw [e]
  unfold Builtin.Range.rangeFitsLong
  simp
  omega
theorem isi {K : PySem.W.Frag} {H : Hp} {x : V} {T1 T2 : String} {b : Bool} {Q : VK} (ty : TyX K H x (.type T1)) (e : kitB T1 T2 = some b) (q : Q (.bl b) H) : rIsi K [x, .ty T2] H Q :=
  ⟨x, .ty T2, _, _, b, rfl, .ty _, ty, kit_ty e, q⟩
theorem ifT {c : Bool} {A B : Prop} (hc : c = true) (h : A) : if c = true then A else B := by
  rw [if_pos hc]
  exact h
theorem ifF {c : Bool} {A B : Prop} (hc : c = false) (h : B) : if c = true then A else B := by
  rw [if_neg (by rw [hc]; decide)]
  exact h
local macro_rules | `(tactic| walk_at "isk") => `(tactic| first
  | exact .base (.int _) | exact .base (.str _) | exact .base (.bl _) | exact .base .non
  | exact .base (.lst (by assumption)) | exact .base (.tup (by assumption)) | exact .base (.dK (by assumption)))
/-- isinstance(x, T) with a built-in T; the object's fact stands in the context -/
local macro_rules | `(tactic| walk_at "isi") => `(tactic| first
  | refine ⟨_, .ty _, _, _, true, (rfl : (_ : List V) = _), .ty _, (by walk_at "isk"), kit_ty (by decide +kernel), ?_⟩
  | refine ⟨_, .ty _, _, _, false, (rfl : (_ : List V) = _), .ty _, (by walk_at "isk"), kit_ty (by decide +kernel), ?_⟩)
/-! ### classes of the top -/
structure MethOk (K : PySem.W.Frag) (C : Addr) (m qual : Str) (st : Stmt) (ps : List Str) : Prop where
  ex : ∃ (f : Addr) (fd : FuncData), Meth K C m f ∧ L2.Fun K m qual st f fd ∧ Binds K fd ps []
structure MakOk (K : PySem.W.Frag) (C : Addr) (qual : Str) (st : Stmt) (ps : List Str) : Prop where
  ex : ∃ (f : Addr) (fd : FuncData), Mk K C f ∧ L2.Fun K "__init__" qual st f fd ∧ Binds K fd ps []
section
variable {P : Program} {w : World} {K : PySem.W.Frag} {mg : Str → Option Value} {base : Heap}
theorem met {C : Addr} {m qual : Str} {st : Stmt} {N ps : List Str} {k : Nat} {sp : Sp} (c : Cls K C) (D : MethOk K C m qual st ps) (S : FnScope N ps (defScope st)) (len : ∀ vs H Q E, sp vs H Q E → vs.length = ps.length)
    (hbody : ∀ (f : Addr) (cdv : Value) (A : Around) (outer : List Env) (s : Shared) (H : Hp) (vs : List V) (Q : VK) (E : XK), Room k (A.deeper (envOfC qual (defScope st) s.heap.objs.size f cdv)) → sp vs H Q E →
      ∃ t, PSs (cxOf L2.CX0 P w K mg base N qual (defScope st) f cdv A outer s H E).nox (defBody st) t ∧ t { nx := fun _ H' => Q .non H', rt := Q } (start N vs) H) : Met P w K mg base (k + 1) C m sp [] := by
  obtain ⟨f, fd, M, F, b⟩ := D.ex
  exact ⟨f, fd, ps, [], c, M, F.ok S len (fun cdv A outer s H vs Q E hr h => hbody f cdv A outer s H vs Q E hr h), b, .nil⟩
theorem mak {C : Addr} {x qual : Str} {st : Stmt} {N ps : List Str} {k : Nat} {sp : Sp} (hm : mg x = some (.ref C)) (D : MakOk K C qual st ps) (S : FnScope N ps (defScope st)) (len : ∀ vs H Q E, sp vs H Q E → vs.length = ps.length)
    (hbody : ∀ (f : Addr) (cdv : Value) (A : Around) (outer : List Env) (s : Shared) (H : Hp) (vs : List V) (Q : VK) (E : XK), Room k (A.deeper (envOfC qual (defScope st) s.heap.objs.size f cdv)) → sp vs H Q E →
      ∃ t, PSs (cxOf L2.CX0 P w K mg base N qual (defScope st) f cdv A outer s H E).nox (defBody st) t ∧ t { nx := fun _ H' => Q .non H', rt := Q } (start N vs) H) : Mak P w K mg base (k + 1) x C sp [] := by
  obtain ⟨f, fd, M, F, b⟩ := D.ex
  exact ⟨f, fd, ps, [], M, F.ok S len (fun cdv A outer s H vs Q E hr h => hbody f cdv A outer s H vs Q E hr h), hm, b, .nil⟩
end
/-- a tuple of the top, in the written part -/
def KTup (K : PySem.W.Frag) (a : Addr) (xs : List V) : Prop := ∃ o its n, K.lookup a = some o ∧ o.cls = Value.type "tuple" ∧ o.data = Data.seq its n ∧ its.size ≤ sizeLine ∧ Vals xs its.toList
theorem pe_mk0 {X : Cx} {k j : Nat} {x : Str} {C : Addr} {sp : Sp} {dvs : List V} {p pos : Pos} (c : Mak X.prog X.w X.K X.mg X.base k x C sp dvs) (hr : Room j X.A) (hk : k + 1 ≤ j) (hg : Gl X x)
    (hdb : (x == ("__debug__" : Str)) = false := by decide) : PE X (.Call (.Name x p) [] [] pos) (tMake C sp dvs L2.E0 tNil) := by
  obtain ⟨f, fd, ps, ds, M, F, hm, b, d⟩ := c.ex
  exact pe_make0 M F (hr.mono hk) hg hm b d pass0 hdb
/-! ### rules whose written part is named K (a comprehension's context is another one) -/
section
variable {X : Cx} {K : PySem.W.Frag}
theorem kin (h : X.K = K := by rfl) : OpR X (compareOp .In) (rIn K false) := by subst h; exact op_in_seq
theorem knin (h : X.K = K := by rfl) : OpR X (compareOp .NotIn) (rIn K true) := by subst h; exact op_notIn_seq
theorem kixl (h : X.K = K := by rfl) : IxR X (rIxL K) := by subst h; exact ix_list
theorem kixt (h : X.K = K := by rfl) : IxR X (rIxT K) := by subst h; exact ix_tup
theorem ksll (h : X.K = K := by rfl) : SlR X (rSlL K) := by subst h; exact sl_list
theorem kisi (h : X.K = K := by rfl) : CallR X (.builtin "isinstance") (rIsi K) := by subst h; exact call_isi
theorem kfld {o : Expr} {f : Str} {pos : Pos} {ta : TE} (he : PE X o ta) (hb : attributeBase o f X.env (eval o X.env) = eval o X.env := by rfl) (h : X.K = K := by rfl) : PE X (.Attribute o f pos) (tFld K ta f) := by subst h; exact pe_fld he hb
def rLenK (K : PySem.W.Frag) : List V → Hp → VK → Prop := fun xs H Q => ∃ p ys, xs = [.ref p] ∧ (SqL K H p ys ∨ SqT K H p ys) ∧ Q (.int ys.length) H
theorem klen (h : X.K = K := by rfl) : CallR X (.builtin "len") (rLenK K) := by subst h; exact call_len_seq
end
theorem hu1 {k : Nat} {A : Around} (hr : Room k A) : A.units + 1 < cLine := by have := hr.units; omega
section
variable {X : Cx}
theorem kdin {d : Addr} (h : ∃ es n, KDict X.K X.w d es n) : OpR X (compareOp .In) (fun x y H Q => ∃ (z : Str) (r : Option Value), x = .str z ∧ y = .ref d ∧ PySem.W.nsIn X.K d z = some r ∧ Q (.bl r.isSome) H) := by
  obtain ⟨es, n, D⟩ := h
  exact op_in_kd D
theorem kdnin {d : Addr} (h : ∃ es n, KDict X.K X.w d es n) : OpR X (compareOp .NotIn) (fun x y H Q => ∃ (z : Str) (r : Option Value), x = .str z ∧ y = .ref d ∧ PySem.W.nsIn X.K d z = some r ∧ Q (.bl (!r.isSome)) H) := by
  obtain ⟨es, n, D⟩ := h
  exact op_notIn_kd D
end


/-! ### a != b of two equal dicts -/
section
variable {X : Cx} {pins : List (Addr × Obj)} {σ : L2.St} {H : Hp} {s : Shared}
theorem rcP_dictsNe {prog : Program} {w : World} {K : Type} [DecidableEq K] {knd : KeyKind prog w K} {A : Around} {s : Shared} {a b : Addr} {ka kb : List (K × Value)} {r : Bool} (ha : (a == sysModules) = false) (hb : (b == sysModules) = false)
    (da : s.heap.DictOf knd a ka) (db : s.heap.DictOf knd b kb) (hu : A.units < cLine) (hits : ka.length = kb.length → PySem.W.KeqHitsP prog w A.in1 s kb ka r) (E Q : Value → Shared → Prop) (h : Q (.bool (!(ka.length == kb.length && r))) s) : wpAny (model prog w) A (richCompare .NotEq (.ref a) (.ref b)) Q E s := by
  refine wpAny_richCompare_same_room (op := .NotEq) da.typeIs db.typeIs PySem.F.slot_dict_ne (wpAny_call_entry PySem.F.slot_dict_ne da.typeIs PySem.F.entry_dict_ne ?_ (PySem.F.args_dict_ne_2 _ _)) hu
  show wpAny _ _ (Builtin.Dict.dictSlotArgs "__ne__" ⟨[.ref a, .ref b], []⟩ >>= _) _ _ s
  refine wpAny_bind ?_
  unfold Builtin.Dict.dictSlotArgs
  refine wpAny_bind (wpAny_notOrdered_dict da.typeIs ?_)
  show wpAny _ _ (pure (Value.ref a, Value.ref b)) _ _ s
  refine wpAny_pure ?_
  refine wpAny_bind (wpAny_isInstance (T := "dict") db.typeIs PySem.F.sub_dict_dict ?_)
  simp only [Bool.not_true, Bool.false_eq_true, if_false]
  refine wpAny_bind (wpAny_pure (wpAny_bind (wpAny_pure ?_)))
  refine wpAny_bind (PySem.W.samePairsP ha hb da db hits ?_)
  refine wpAny_pure ⟨_, rfl, ?_, ?_⟩
  · exact fun x => nomatch x
  · simpa using h
def rNeDict (K : PySem.W.Frag) : R2 := fun x y H Q => ∃ a b ks ls n, n ≤ 60 ∧ x = .ref a ∧ y = .ref b ∧ H a = some (.dK ks) ∧ H b = some (.dK ls) ∧ ks.length = ls.length ∧ (∀ p ∈ ks, ∃ u, valV ls p.1 = some u ∧ EqV K H n p.2 u) ∧ Q (.bl false) H
theorem op_neDict (hu : X.A.units + 64 < cLine) : OpR X (compareOp .NotEq) (rNeDict X.K) := by
  intro pins s σ H x y v u Q I rx ry h
  obtain ⟨a, b, ks, ls, n, hn, rfl, rfl, ha, hb, hl, hp, q⟩ := h
  cases (show v = Value.ref a from rx)
  cases (show u = Value.ref b from ry)
  obtain ⟨_, ya, va, ra, da⟩ := (show ObjOk X.prog X.w H s.heap a (.dK ks) from I.hok a _ ha)
  obtain ⟨_, yb, vb, rb, db⟩ := (show ObjOk X.prog X.w H s.heap b (.dK ls) from I.hok b _ hb)
  refine rcP_dictsNe (knd := mixKind X.prog X.w) (r := true) ya yb da db (by omega) (fun _ => hits_run (eqV_run I n X.A.in1 (by show X.A.units + 1 + n < cLine; omega)) rb ra hp) _ _ ?_
  have e : va.length = vb.length := by rw [← ra.length, ← rb.length]; exact hl
  rw [show (!(va.length == vb.length && true)) = false from by rw [e]; simp]
  exact ⟨.bl false, H, I, rfl, q⟩
end

def topS (i : Nat) : Stmt := PySem.Challenge.pw_oathledger_k35_numbers_along_a_path.main.body.getD i (.Pass ⟨0, 0, 0, 0⟩)
abbrev s_numbers_after : Stmt := topS 1
theorem sc_numbers_after : FnScope ["last", "commands", "numbers", "client", "number", "_"] ["last", "commands"] (defScope s_numbers_after) := ⟨rfl, rfl, rfl, by decide +kernel, rfl, by decide +kernel, by decide +kernel⟩
abbrev s_numbers_along : Stmt := topS 3
theorem sc_numbers_along : FnScope ["numbers", "path", "reached", "block"] ["numbers", "path"] (defScope s_numbers_along) := ⟨rfl, rfl, rfl, by decide +kernel, rfl, by decide +kernel, by decide +kernel⟩
abbrev s__law_cell : Stmt := topS 5
theorem sc__law_cell : FnScope ["script", "k"] ["script", "k"] (defScope s__law_cell) := ⟨rfl, rfl, rfl, by decide +kernel, rfl, by decide +kernel, by decide +kernel⟩
abbrev s__law_draws : Stmt := topS 6
theorem sc__law_draws : FnScope ["script", "start", "most", "draws", "cell", "number", "mixed", "k"] ["script", "start", "most"] (defScope s__law_draws) := ⟨rfl, rfl, rfl, by decide +kernel, rfl, by decide +kernel, by decide +kernel⟩
abbrev s__law_commands : Stmt := topS 7
theorem sc__law_commands : FnScope ["draw", "commands", "client"] ["draw"] (defScope s__law_commands) := ⟨rfl, rfl, rfl, by decide +kernel, rfl, by decide +kernel, by decide +kernel⟩
abbrev s_law : Stmt := topS 8
theorem sc_law : FnScope ["script", "cell", "start", "path", "draw", "kept", "expected", "block", "command", "actual"] ["script"] (defScope s_law) := ⟨rfl, rfl, rfl, by decide +kernel, rfl, by decide +kernel, by decide +kernel⟩
structure Txt (K : PySem.W.Frag) (mg : Str → Option Value) : Prop where
  d_numbers_after : DefOk K mg "numbers_after" s_numbers_after ["last", "commands"]
  d_numbers_along : DefOk K mg "numbers_along" s_numbers_along ["numbers", "path"]
  d__law_cell : DefOk K mg "_law_cell" s__law_cell ["script", "k"]
  d__law_draws : DefOk K mg "_law_draws" s__law_draws ["script", "start", "most"]
  d__law_commands : DefOk K mg "_law_commands" s__law_commands ["draw"]
  d_law : DefOk K mg "law" s_law ["script"]
  z_abs : mg "abs" = none
  z_dict : mg "dict" = none
  z_int : mg "int" = none
  z_isinstance : mg "isinstance" = none
  z_len : mg "len" = none
  z_range : mg "range" = none
  z_tuple : mg "tuple" = none
set_option pp.maxSteps 150
/-! ### the draws of a script -/
def Dr (H : Hp) (D A : Addr) : Prop := D ≠ A ∧ ∃ (ds : List Int) (n : Nat), H D = some (.lst (ds.map V.int)) ∧ H A = some (.lst [.int n]) ∧ (∀ d ∈ ds, 0 ≤ d ∧ d < 1000) ∧ ds.length ≤ 2520
/-- all that was tracked but A is as it was -/
def Mod (A : Addr) (H H' : Hp) : Prop := ∀ b o, b ≠ A → H b = some o → H' b = some o
theorem Mod.refl {A : Addr} {H : Hp} : Mod A H H := fun _ _ _ h => h
theorem Mod.trans {A : Addr} {H H1 H2 : Hp} (a : Mod A H H1) (b : Mod A H1 H2) : Mod A H H2 := fun c o n h => b c o n (a c o n h)
theorem Same.mod {A : Addr} {H H' : Hp} (s : Same H H') : Mod A H H' := fun b o _ h => s b o h
theorem Mod.new {A p : Addr} {o : HO} {H H' : Hp} (s : Mod A H H') (h : H' p = none) : Mod A H (upd H' p o) := fun b u n e => by
  rw [upd_ne (ne_of_none (s b u n e) h)]
  exact s b u n e
theorem Dr.new {D A p : Addr} {o : HO} {H : Hp} (d : Dr H D A) (h : H p = none) : Dr (upd H p o) D A := by
  obtain ⟨ne, ds, n, h1, h2, h3⟩ := d
  exact ⟨ne, ds, n, by rw [upd_ne (ne_of_none h1 h)]; exact h1, by rw [upd_ne (ne_of_none h2 h)]; exact h2, h3⟩
theorem Dr.same {D A : Addr} {H H' : Hp} (d : Dr H D A) (s : Same H H') : Dr H' D A := by
  obtain ⟨ne, ds, n, h1, h2, h3⟩ := d
  exact ⟨ne, ds, n, s _ _ h1, s _ _ h2, h3⟩
/-- an object that is neither D nor A is changed -/
theorem Dr.put {D A p : Addr} {o : HO} {H : Hp} (d : Dr H D A) (h1 : p ≠ D) (h2 : p ≠ A) : Dr (upd H p o) D A := by
  obtain ⟨ne, ds, n, e1, e2, h3⟩ := d
  exact ⟨ne, ds, n, by rw [upd_ne h1.symm]; exact e1, by rw [upd_ne h2.symm]; exact e2, h3⟩
theorem Dr.freshA {D A p : Addr} {H : Hp} (d : Dr H D A) (h : H p = none) : p ≠ A := by
  obtain ⟨_, _, _, _, e, _⟩ := d
  exact (ne_of_none e h).symm
theorem Dr.freshD {D A p : Addr} {H : Hp} (d : Dr H D A) (h : H p = none) : p ≠ D := by
  obtain ⟨_, _, _, e, _⟩ := d
  exact (ne_of_none e h).symm
theorem Mod.free {A p : Addr} {H H' : Hp} (s : Mod A H H') (d : ∃ o, H' A = some o) (h : H' p = none) : H p = none := by
  cases e : H p with
  | none => rfl
  | some o =>
    by_cases hp : p = A
    · subst hp
      obtain ⟨o', e'⟩ := d
      rw [e'] at h; cases h
    · rw [s p o hp e] at h; cases h
theorem Dr.A_in {D A : Addr} {H : Hp} (d : Dr H D A) : ∃ o, H A = some o := by
  obtain ⟨_, _, _, _, e, _⟩ := d
  exact ⟨_, e⟩
theorem rng_app {ds : List Int} {x : Int} (h : ∀ d ∈ ds, 0 ≤ d ∧ d < 1000) (h0 : 0 ≤ x) (h1 : x < 1000) : ∀ d ∈ ds ++ [x], 0 ≤ d ∧ d < 1000 := fun d hd => by
  rcases List.mem_append.mp hd with hd | hd
  · exact h d hd
  · rw [List.mem_singleton.mp hd]; exact ⟨h0, h1⟩

/-! ### drawn numbers and strings -/
def prC (c : Nat) : Bool := decide (32 ≤ c) && decide (c ≤ 126) && decide (c ≠ 37)
def isPr (z : Str) : Bool := z.cps.toList.all prC
theorem app_tl (a b : Str) : (a ++ b).cps.toList = a.cps.toList ++ b.cps.toList := by
  show (a.cps ++ b.cps).toList = _
  rw [Array.toList_append]
theorem len_tl (z : Str) : z.cps.toList.length = z.length := Array.length_toList
theorem isPr_app (a b : Str) : isPr (a ++ b) = (isPr a && isPr b) := by
  unfold isPr
  rw [app_tl, List.all_append]

/-! ### values as data: what stands at them does not change -/
def TupAt (K : PySem.W.Frag) (H : Hp) (a : Addr) (xs : List V) : Prop := H a = some (.tup xs) ∨ KTup K a xs
section
variable {K : PySem.W.Frag}
theorem TupAt.sq {H : Hp} {a : Addr} {xs : List V} (h : TupAt K H a xs) : SqT K H a xs := h.elim SqT.of .inr
theorem TupAt.ty {H : Hp} {a : Addr} {xs : List V} (h : TupAt K H a xs) : TyX K H (.ref a) (.type "tuple") := h.elim (fun h => .base (.tup h)) (fun ⟨_, _, _, h1, h2, _⟩ => .kTuple h1 h2)
theorem TupAt.same {H H' : Hp} {a : Addr} {xs : List V} (h : TupAt K H a xs) (s : Same H H') : TupAt K H' a xs := h.imp (s _ _) id
/-- none of those at A (none: no matter) -/
def NeA (A : Option Addr) (a : Addr) : Prop := match A with | some b => a ≠ b | none => True
mutual
/-- v is the data d; the lists in it are none of those at A -/
inductive Dt (K : PySem.W.Frag) (H : Hp) (A : Option Addr) : V → PyData → Prop
  | non : Dt K H A .non .none
  | bl (b : Bool) : Dt K H A (.bl b) (.bool b)
  | int (i : Int) : Dt K H A (.int i) (.int i)
  | str (z : Str) (h : z.length ≤ 1000000) : Dt K H A (.str z) (.str z)
  | lst {a : Addr} {xs : List V} {ds : List PyData} : NeA A a → H a = some (.lst xs) → DtAll K H A xs ds → Dt K H A (.ref a) (.list ds)
  | tup {a : Addr} {xs : List V} {ds : List PyData} : TupAt K H a xs → DtAll K H A xs ds → Dt K H A (.ref a) (.tuple ds)
inductive DtAll (K : PySem.W.Frag) (H : Hp) (A : Option Addr) : List V → List PyData → Prop
  | nil : DtAll K H A [] []
  | cons {v : V} {vs : List V} {d : PyData} {ds : List PyData} : Dt K H A v d → DtAll K H A vs ds → DtAll K H A (v :: vs) (d :: ds)
end
theorem DtAll.length {H : Hp} {A : Option Addr} : ∀ {xs : List V} {ds : List PyData}, DtAll K H A xs ds → xs.length = ds.length
  | _, _, .nil => rfl
  | _, _, .cons _ r => by rw [List.length_cons, List.length_cons, r.length]
theorem DtAll.get {H : Hp} {A : Option Addr} : ∀ {xs : List V} {ds : List PyData} {i : Nat} {x : V}, DtAll K H A xs ds → xs[i]? = some x → ∃ d, ds[i]? = some d ∧ Dt K H A x d
  | _, _, _, _, .nil, e => by simp at e
  | _, _, 0, x, .cons h _, e => by simp at e; subst e; exact ⟨_, rfl, h⟩
  | _, _, i + 1, x, .cons _ r, e => by
    obtain ⟨d, h1, h2⟩ := r.get (i := i) (x := x) (by simpa using e)
    exact ⟨d, by simpa using h1, h2⟩
theorem DtAll.getD {H : Hp} {A : Option Addr} {xs : List V} {ds : List PyData} {i : Nat} {d : PyData} (h : DtAll K H A xs ds) (e : ds[i]? = some d) : ∃ x, xs[i]? = some x ∧ Dt K H A x d := by
  have hi : i < ds.length := (List.getElem?_eq_some_iff.mp e).1
  have hi' : i < xs.length := by rw [h.length]; exact hi
  obtain ⟨d', h1, h2⟩ := h.get (List.getElem?_eq_getElem hi')
  rw [e] at h1
  cases h1
  exact ⟨_, List.getElem?_eq_getElem hi', h2⟩
mutual
theorem Dt.mod {H H' : Hp} {A D : Addr} (s : Mod A H H') (dr : Dr H D A) : ∀ (d : PyData) (v : V), Dt K H (some A) v d → Dt K H' (some A) v d
  | .none, _, h => by cases h; exact .non
  | .bool b, _, h => by cases h; exact .bl b
  | .int i, _, h => by cases h; exact .int i
  | .str z, _, h => by cases h with | str _ hz => exact .str z hz
  | .list ds, _, h => by cases h with | lst hn ha hd => exact .lst hn (s _ _ hn ha) (DtAll.mod s dr ds _ hd)
  | .tuple ds, _, h => by
    cases h with
    | tup ha hd =>
      obtain ⟨_, _, _, _, e, _⟩ := id dr
      exact .tup (ha.imp (fun ha => s _ _ (ne_of ha e (by intro z; cases z)) ha) id) (DtAll.mod s dr ds _ hd)
  | .dict _, _, h => by cases h
theorem DtAll.mod {H H' : Hp} {A D : Addr} (s : Mod A H H') (dr : Dr H D A) : ∀ (ds : List PyData) (xs : List V), DtAll K H (some A) xs ds → DtAll K H' (some A) xs ds
  | [], _, h => by cases h; exact .nil
  | d :: ds, _, h => by cases h with | cons h1 h2 => exact .cons (Dt.mod s dr d _ h1) (DtAll.mod s dr ds _ h2)
end
mutual
theorem Dt.same {H H' : Hp} {A : Option Addr} (s : Same H H') : ∀ (d : PyData) (v : V), Dt K H A v d → Dt K H' A v d
  | .none, _, h => by cases h; exact .non
  | .bool b, _, h => by cases h; exact .bl b
  | .int i, _, h => by cases h; exact .int i
  | .str z, _, h => by cases h with | str _ hz => exact .str z hz
  | .list ds, _, h => by cases h with | lst hn ha hd => exact .lst hn (s _ _ ha) (DtAll.same s ds _ hd)
  | .tuple ds, _, h => by cases h with | tup ha hd => exact .tup (ha.same s) (DtAll.same s ds _ hd)
  | .dict _, _, h => by cases h
theorem DtAll.same {H H' : Hp} {A : Option Addr} (s : Same H H') : ∀ (ds : List PyData) (xs : List V), DtAll K H A xs ds → DtAll K H' A xs ds
  | [], _, h => by cases h; exact .nil
  | d :: ds, _, h => by cases h with | cons h1 h2 => exact .cons (Dt.same s d _ h1) (DtAll.same s ds _ h2)
end
mutual
/-- data for a comparison -/
theorem Dt.dp {H : Hp} {A : Option Addr} : ∀ (d : PyData) (v : V), Dt K H A v d → Dp K H v d
  | .none, _, h => by cases h; exact .non
  | .bool b, _, h => by cases h; exact .bl b
  | .int i, _, h => by cases h; exact .int i
  | .str z, _, h => by cases h; exact .str z
  | .list ds, _, h => by cases h with | lst hn ha hd => exact .lst (SqL.of ha) (DtAll.dp ds _ hd)
  | .tuple ds, _, h => by cases h with | tup ha hd => exact .tup ha.sq (DtAll.dp ds _ hd)
  | .dict _, _, h => by cases h
theorem DtAll.dp {H : Hp} {A : Option Addr} : ∀ (ds : List PyData) (xs : List V), DtAll K H A xs ds → DpAll K H xs ds
  | [], _, h => by cases h; exact .nil
  | d :: ds, _, h => by cases h with | cons h1 h2 => exact .cons (Dt.dp d _ h1) (DtAll.dp ds _ h2)
end
theorem Dt.on {H H' : Hp} {A : Option Addr} {v : V} {d : PyData} (h : Dt K H A v d) (s : Same H H') : Dt K H' A v d := Dt.same s d v h
theorem DtAll.on {H H' : Hp} {A : Option Addr} {xs : List V} {ds : List PyData} (h : DtAll K H A xs ds) (s : Same H H') : DtAll K H' A xs ds := DtAll.same s ds xs h
theorem Dt.by {H H' : Hp} {A D : Addr} {v : V} {d : PyData} (h : Dt K H (some A) v d) (s : Mod A H H') (dr : Dr H D A) : Dt K H' (some A) v d := Dt.mod s dr d v h
theorem DtAll.by {H H' : Hp} {A D : Addr} {xs : List V} {ds : List PyData} (h : DtAll K H (some A) xs ds) (s : Mod A H H') (dr : Dr H D A) : DtAll K H' (some A) xs ds := DtAll.mod s dr ds xs h
theorem Dt.two {H : Hp} {A : Option Addr} {v : V} {d : PyData} (h : Dt K H A v d) : (∃ a xs ds, v = .ref a ∧ d = .tuple ds ∧ TupAt K H a xs ∧ DtAll K H A xs ds) ∨ (∃ T, TyX K H v (.type T) ∧ kitB T "tuple" = some false ∧ ∀ ds, d ≠ .tuple ds) := by
  cases h with
  | tup ha hx => exact .inl ⟨_, _, _, rfl, rfl, ha, hx⟩
  | str z hz => exact .inr ⟨_, .base (.str z), by decide +kernel, fun _ z => nomatch z⟩
  | int i => exact .inr ⟨_, .base (.int i), by decide +kernel, fun _ z => nomatch z⟩
  | non => exact .inr ⟨_, .base .non, by decide +kernel, fun _ z => nomatch z⟩
  | bl b => exact .inr ⟨_, .base (.bl b), by decide +kernel, fun _ z => nomatch z⟩
  | lst _ ha _ => exact .inr ⟨_, .base (.lst ha), by decide +kernel, fun _ z => nomatch z⟩
/-- the kind of a value -/
def dTy : PyData → String
  | .none => "NoneType" | .bool _ => "bool" | .int _ => "int" | .str _ => "str" | .list _ => "list" | .tuple _ => "tuple" | .dict _ => "dict"
theorem Dt.ty {H : Hp} {A : Option Addr} {v : V} {d : PyData} (h : Dt K H A v d) : TyX K H v (.type (dTy d)) := by
  cases h with
  | non => exact .base .non
  | bl b => exact .base (.bl b)
  | int i => exact .base (.int i)
  | str z _ => exact .base (.str z)
  | lst _ ha _ => exact .base (.lst ha)
  | tup ha _ => exact ha.ty
/-! the predicates of the program, upon data -/
def dInt (lo hi : Int) : PyData → Bool
  | .int i => decide (lo ≤ i ∧ i ≤ hi)
  | _ => false
def dShort (m : Int) : PyData → Bool
  | .str z => isPr z && decide ((z.length : Int) ≤ m)
  | _ => false
def dCmd : PyData → Bool
  | .tuple [c, n, t] => dInt (-100) (-1) c && dInt 1 1000000000000 n && dShort 240 t
  | _ => false
def dClient : PyData → Int
  | .tuple (.int c :: _) => c
  | _ => 0
def dAfter : Option Int → PyData → Bool
  | some k, d => decide (k < dClient d)
  | none, _ => true
def befV : Option Int → V
  | some k => .int k
  | none => .non
def dCmdsFrom : Option Int → List PyData → Bool
  | _, [] => true
  | b, d :: r => dCmd d && dAfter b d && dCmdsFrom (some (dClient d)) r
theorem dCmdsFrom_cons (b : Option Int) (d : PyData) (r : List PyData) : dCmdsFrom b (d :: r) = (dCmd d && dAfter b d && dCmdsFrom (some (dClient d)) r) := by cases b <;> rfl
theorem dCmdsFrom_nil (b : Option Int) : dCmdsFrom b [] = true := by cases b <;> rfl
def dCmds : PyData → Bool
  | .tuple ds => dCmdsFrom none ds
  | _ => false
def dHeight (parent : Int) (h : PyData) : Bool := if parent = 0 then dInt 1 1 h else dInt 2 (parent + 1) h
def dBlock4 (e p h cs : PyData) : Bool := match e, p with
  | .int e, .int p => dInt 1 1000000000000 (.int e) && dInt 0 (e - 1) (.int p) && dHeight p h && dCmds cs
  | _, _ => false
def dBlock : PyData → Bool
  | .tuple [e, p, h, cs] => dBlock4 e p h cs
  | _ => false
def dEmpty : PyData → Bool
  | .tuple [] => true
  | _ => false
def dGen : PyData → Bool
  | .tuple [e, p, h, cs] => dInt 0 0 e && dInt 0 0 p && dInt 0 0 h && dEmpty cs
  | _ => false
theorem DtAll.four {H : Hp} {A : Option Addr} {xs : List V} {ds : List PyData} (h : DtAll K H A xs ds) (hl : xs.length = 4) :
    ∃ x1 x2 x3 x4 d1 d2 d3 d4, xs = [x1, x2, x3, x4] ∧ ds = [d1, d2, d3, d4] ∧ Dt K H A x1 d1 ∧ Dt K H A x2 d2 ∧ Dt K H A x3 d3 ∧ Dt K H A x4 d4 := by
  match xs, ds, h with
  | [_, _, _, _], _, .cons h1 (.cons h2 (.cons h3 (.cons h4 .nil))) => exact ⟨_, _, _, _, _, _, _, _, rfl, rfl, h1, h2, h3, h4⟩
theorem dBlock4_e1 {e p h cs : PyData} (z : dInt 1 1000000000000 e = false) : dBlock4 e p h cs = false := by
  unfold dBlock4
  split
  · rw [z]; rfl
  · rfl
theorem dBlock4_e2 {e : Int} {p h cs : PyData} (z : dInt 0 (e - 1) p = false) : dBlock4 (.int e) p h cs = false := by
  unfold dBlock4
  split
  · rename_i h1
    cases h1
    rw [z, Bool.and_false]; rfl
  · rfl
/-- a predicate of one value, kept by growing heaps -/
def spPred (K : PySem.W.Frag) (A : Option Addr) (f : PyData → Bool) : Sp := fun vs H Q _ => ∃ (v : V) (d : PyData), vs = [v] ∧ Dt K H A v d ∧ ∀ H', Same H H' → Q (.bl (f d)) H'
def spIntD (K : PySem.W.Frag) (A : Option Addr) : Sp := fun vs H Q _ => ∃ (v : V) (d : PyData) (lo hi : Int), vs = [v, .int lo, .int hi] ∧ Dt K H A v d ∧ Q (.bl (dInt lo hi d)) H
def spShortD (K : PySem.W.Frag) (A : Option Addr) : Sp := fun vs H Q _ => ∃ (v : V) (d : PyData) (m : Int), vs = [v, .int m] ∧ Dt K H A v d ∧ ∀ H', Same H H' → Q (.bl (dShort m d)) H'
theorem dInt_inv {lo hi : Int} {d : PyData} (h : dInt lo hi d = true) : ∃ i, d = .int i ∧ lo ≤ i ∧ i ≤ hi := by
  cases d with
  | int i =>
    have h : decide (lo ≤ i ∧ i ≤ hi) = true := h
    exact ⟨i, rfl, (of_decide_eq_true h).1, (of_decide_eq_true h).2⟩
  | none => cases h
  | bool b => cases h
  | str z => cases h
  | list ds => cases h
  | tuple ds => cases h
  | dict k => cases h
theorem dShort_inv {m : Int} {d : PyData} (h : dShort m d = true) : ∃ z : Str, d = .str z ∧ isPr z = true ∧ (z.length : Int) ≤ m := by
  cases d with
  | str z =>
    have h : (isPr z && decide ((z.length : Int) ≤ m)) = true := h
    obtain ⟨h1, h2⟩ := Bool.and_eq_true_iff.mp h
    exact ⟨z, rfl, h1, of_decide_eq_true h2⟩
  | none => cases h
  | bool b => cases h
  | int i => cases h
  | list ds => cases h
  | tuple ds => cases h
  | dict k => cases h
theorem dCmd_inv {d : PyData} (h : dCmd d = true) : ∃ (c n : Int) (t : Str), d = .tuple [.int c, .int n, .str t] ∧ -100 ≤ c ∧ c ≤ -1 ∧ 1 ≤ n ∧ n ≤ 1000000000000 ∧ isPr t = true ∧ (t.length : Int) ≤ 240 := by
  unfold dCmd at h
  split at h
  · rename_i c n t
    rw [Bool.and_eq_true, Bool.and_eq_true] at h
    obtain ⟨⟨h1, h2⟩, h3⟩ := h
    obtain ⟨c, rfl, c0, c1⟩ := dInt_inv h1
    obtain ⟨n, rfl, n0, n1⟩ := dInt_inv h2
    obtain ⟨t, rfl, t0, t1⟩ := dShort_inv h3
    exact ⟨c, n, t, rfl, c0, c1, n0, n1, t0, t1⟩
  · cases h
/-- what a tuple of three ints, ints, texts stands for -/
theorem Dt.three {H : Hp} {A : Option Addr} {v : V} {d1 d2 d3 : PyData} (h : Dt K H A v (.tuple [d1, d2, d3])) : ∃ a x1 x2 x3, v = .ref a ∧ TupAt K H a [x1, x2, x3] ∧ Dt K H A x1 d1 ∧ Dt K H A x2 d2 ∧ Dt K H A x3 d3 := by
  cases h with
  | tup ha hd =>
    cases hd with
    | cons h1 hd =>
      cases hd with
      | cons h2 hd =>
        cases hd with
        | cons h3 hd =>
          cases hd
          exact ⟨_, _, _, _, rfl, ha, h1, h2, h3⟩
mutual
theorem Dt.any {H : Hp} {A : Option Addr} : ∀ (d : PyData) (v : V), Dt K H A v d → Dt K H none v d
  | .none, _, h => by cases h; exact .non
  | .bool b, _, h => by cases h; exact .bl b
  | .int i, _, h => by cases h; exact .int i
  | .str z, _, h => by cases h with | str _ hz => exact .str z hz
  | .list ds, _, h => by cases h with | lst hn ha hd => exact .lst trivial ha (DtAll.any ds _ hd)
  | .tuple ds, _, h => by cases h with | tup ha hd => exact .tup ha (DtAll.any ds _ hd)
  | .dict _, _, h => by cases h
theorem DtAll.any {H : Hp} {A : Option Addr} : ∀ (ds : List PyData) (xs : List V), DtAll K H A xs ds → DtAll K H none xs ds
  | [], _, h => by cases h; exact .nil
  | d :: ds, _, h => by cases h with | cons h1 h2 => exact .cons (Dt.any d _ h1) (DtAll.any ds _ h2)
end
theorem Dt.an {H : Hp} {A : Option Addr} {v : V} {d : PyData} (h : Dt K H A v d) : Dt K H none v d := Dt.any d v h
/-! data without lists -/
mutual
def noL : PyData → Bool
  | .list _ => false
  | .tuple ds => noLs ds
  | _ => true
def noLs : List PyData → Bool
  | [] => true
  | d :: r => noL d && noLs r
end
/-- tracked tuples stay -/
def Tp (H H' : Hp) : Prop := ∀ a xs, H a = some (.tup xs) → H' a = some (.tup xs)
mutual
theorem Dt.keep {H H' : Hp} {A B : Option Addr} (t : Tp H H') : ∀ (d : PyData) (v : V), noL d = true → Dt K H A v d → Dt K H' B v d
  | .none, _, _, h => by cases h; exact .non
  | .bool b, _, _, h => by cases h; exact .bl b
  | .int i, _, _, h => by cases h; exact .int i
  | .str z, _, _, h => by cases h with | str _ hz => exact .str z hz
  | .list ds, _, n, _ => by cases n
  | .tuple ds, _, n, h => by cases h with | tup ha hd => exact .tup (ha.imp (t _ _) id) (DtAll.keep t ds _ n hd)
  | .dict _, _, _, h => by cases h
theorem DtAll.keep {H H' : Hp} {A B : Option Addr} (t : Tp H H') : ∀ (ds : List PyData) (xs : List V), noLs ds = true → DtAll K H A xs ds → DtAll K H' B xs ds
  | [], _, _, h => by cases h; exact .nil
  | d :: ds, _, n, h => by
    have n : (noL d && noLs ds) = true := n
    rw [Bool.and_eq_true] at n
    cases h with | cons h1 h2 => exact .cons (Dt.keep t d _ n.1 h1) (DtAll.keep t ds _ n.2 h2)
end
theorem DtAll.snoc {H : Hp} {A : Option Addr} : ∀ {xs : List V} {ds : List PyData} {x : V} {d : PyData}, DtAll K H A xs ds → Dt K H A x d → DtAll K H A (xs ++ [x]) (ds ++ [d])
  | _, _, _, _, .nil, h => .cons h .nil
  | _, _, _, _, .cons h r, h2 => .cons h (r.snoc h2)
theorem TupAt.tp {H H' : Hp} {a : Addr} {xs : List V} (h : TupAt K H a xs) (t : Tp H H') : TupAt K H' a xs := h.imp (t _ _) id
theorem Same.tp {H H' : Hp} (s : Same H H') : Tp H H' := fun _ _ h => s _ _ h
theorem Mod.tp {H H' : Hp} {A D : Addr} (s : Mod A H H') (dr : Dr H D A) : Tp H H' := fun a xs h => by
  obtain ⟨_, _, _, _, e, _⟩ := id dr
  exact s _ _ (ne_of h e (by intro z; cases z)) h
theorem tp_put {H : Hp} {l : Addr} {xs ys : List V} (h : H l = some (.lst xs)) : Tp H (upd H l (.lst ys)) := fun a zs e => by
  rw [upd_ne (ne_of e h (by intro z; cases z))]; exact e
theorem dCmd_noL {d : PyData} (h : dCmd d = true) : noL d = true := by
  obtain ⟨c, n, t, rfl, _⟩ := dCmd_inv h
  rfl
theorem dCmdsFrom_noL : ∀ {ds : List PyData} {b : Option Int}, dCmdsFrom b ds = true → noLs ds = true
  | [], _, _ => rfl
  | d :: r, b, h => by
    rw [dCmdsFrom_cons, Bool.and_eq_true, Bool.and_eq_true] at h
    show (noL d && noLs r) = true
    rw [dCmd_noL h.1.1, dCmdsFrom_noL h.2]; rfl
theorem dCmdsFrom_all : ∀ {ds : List PyData} {b : Option Int}, dCmdsFrom b ds = true → ∀ d ∈ ds, dCmd d = true
  | [], _, _, _, m => nomatch m
  | d :: r, b, h, e, m => by
    rw [dCmdsFrom_cons, Bool.and_eq_true, Bool.and_eq_true] at h
    rcases List.mem_cons.mp m with rfl | m
    · exact h.1.1
    · exact dCmdsFrom_all h.2 e m
def lastC : Option Int → List PyData → Option Int
  | b, [] => b
  | _, d :: r => lastC (some (dClient d)) r
theorem lastC_snoc : ∀ (ds : List PyData) (b : Option Int) (d : PyData), lastC b (ds ++ [d]) = some (dClient d)
  | [], _, _ => rfl
  | _ :: r, _, d => lastC_snoc r _ d
theorem dCmdsFrom_snoc : ∀ (ds : List PyData) (b : Option Int) (d : PyData), dCmdsFrom b (ds ++ [d]) = (dCmdsFrom b ds && (dCmd d && dAfter (lastC b ds) d))
  | [], b, d => by
    show dCmdsFrom b [d] = _
    rw [dCmdsFrom_cons, dCmdsFrom_nil, dCmdsFrom_nil, Bool.and_true, Bool.true_and]; rfl
  | e :: r, b, d => by
    show dCmdsFrom b (e :: (r ++ [d])) = _
    rw [dCmdsFrom_cons, dCmdsFrom_snoc r, dCmdsFrom_cons, Bool.and_assoc, Bool.and_assoc, Bool.and_assoc]; rfl
end
theorem noLs_all : ∀ {ds : List PyData}, (∀ d ∈ ds, noL d = true) → noLs ds = true
  | [], _ => rfl
  | d :: r, h => by
    show (noL d && noLs r) = true
    rw [h d List.mem_cons_self, noLs_all (fun e he => h e (List.mem_cons_of_mem _ he))]; rfl

/-! ### the draws of a script, by its cells -/
def cellA (ns : List Int) (k : Nat) : Int := ((ns.getD k 0).natAbs : Int)
theorem cellA_nonneg (ns : List Int) (k : Nat) : 0 ≤ cellA ns k := Int.natCast_nonneg _
def spCellA (K : PySem.W.Frag) : Sp := fun vs H Q _ => ∃ (a : Addr) (ns : List Int) (k : Nat), vs = [.ref a, .int k] ∧ SqL K H a (ns.map V.int) ∧ Q (.int (cellA ns k)) H
def spDraws2 (K : PySem.W.Frag) : Sp := fun vs H Q _ => ∃ (a : Addr) (ns : List Int) (st most : Nat), vs = [.ref a, .int st, .int most] ∧ SqL K H a (ns.map V.int) ∧ ns.length ≤ 63 ∧
  ∀ (H' : Hp) (D : Addr) (ds : List Int), Same H H' → H D = none → H' D = some (.lst (ds.map V.int)) → (∀ d ∈ ds, 0 ≤ d ∧ d < 1000000000000000000) → ds.length ≤ most → Q (.ref D) H'
theorem same_none {H H' : Hp} {p : Addr} (s : Same H H') (h : H' p = none) : H p = none := by
  cases e : H p with
  | none => rfl
  | some o => rw [s p o e] at h; cases h

theorem abs_natAbs (i : Int) : (if i < 0 then -i else i) = (i.natAbs : Int) := by split <;> omega
theorem rng_app2 {ds : List Int} {x : Int} (h : ∀ d ∈ ds, 0 ≤ d ∧ d < 1000000000000000000) (h0 : 0 ≤ x) (h1 : x < 1000000000000000000) : ∀ d ∈ ds ++ [x], 0 ≤ d ∧ d < 1000000000000000000 := fun d hd => by
  rcases List.mem_append.mp hd with hd | hd
  · exact h d hd
  · rw [List.mem_singleton.mp hd]; exact ⟨h0, h1⟩
theorem cutV_map {α : Type} (f : α → V) (xs : List α) (lo hi : Option Int) : ∃ ys : List α, cutV (xs.map f) lo hi = ys.map f ∧ ys.length ≤ xs.length ∧ (∀ y ∈ ys, y ∈ xs) := by
  refine ⟨(xs.drop (HT.sIx xs.length 0 lo)).take (HT.sIx xs.length xs.length hi - HT.sIx xs.length 0 lo), ?_, ?_, ?_⟩
  · unfold cutV
    rw [List.length_map, List.map_take, List.map_drop]
  · rw [List.length_take, List.length_drop]; omega
  · intro y hy
    exact List.mem_of_mem_drop (List.mem_of_mem_take hy)
theorem cutV_most (xs : List Int) (m : Nat) : ∃ ys : List Int, cutV (xs.map V.int) none (some (m : Int)) = ys.map V.int ∧ ys.length ≤ m ∧ (∀ y ∈ ys, y ∈ xs) := by
  obtain ⟨ys, e, _, h⟩ := cutV_map V.int xs none (some (m : Int))
  refine ⟨ys, e, ?_, h⟩
  have hl := congrArg List.length e
  rw [List.length_map] at hl
  rw [← hl]
  unfold cutV
  rw [List.length_take, List.length_drop]
  have : HT.sIx (xs.map V.int).length (xs.map V.int).length (some (m : Int)) ≤ m := by
    rw [HT.sIx_nat]
    exact Nat.min_le_left _ _
  omega
section
variable {P : Program} {w : World} {K : PySem.W.Frag} {mg : Str → Option Value} {base : Heap}
theorem c__law_cell (T : Txt K mg) : Cal P w K mg base 1 "_law_cell" (spCellA K) [] := by
  refine cal T.d__law_cell sc__law_cell (fun vs H Q E h => ?_) (fun f cdv A outer s H vs Q E hr h => ?_)
  · obtain ⟨a, ns, k, rfl, _⟩ := h; rfl
  obtain ⟨a, ns, k, rfl, hS, q⟩ := h
  refine ⟨_, (pss_cons (ps_if (pt_cmpR op_lt (pv 1) (pe_callB (klen (K := K)) (by rfl) T.z_len (by decide +kernel) (pa_cons (pv 0) pa_nil)) (nomark _)) (pss_one (ps_ret (pe_callB call_abs (by rfl) T.z_abs (by decide +kernel) (pa_cons (pe_callTy call_int1 (by rfl) T.z_int (by decide +kernel) (pa_cons (pe_ix (kixl (K := K)) (pv 0) (pv 1) (fun _ _ => rfl)) pa_nil)) pa_nil)))) pss_nil)
      (pss_one (ps_ret pe_int))), ?_⟩
  refine ⟨.int k, rfl, .ref a, rfl, a, _, rfl, .inl hS, _, _, rfl, rfl, _, rfl, ite2 (fun e => ?_) (fun e => ?_)⟩
  · have e := of_decide_eq_true e
    rw [List.length_map] at e
    have e1 : k < ns.length := by omega
    have g : (ns.map V.int)[k]? = some (.int (ns.getD k 0)) := by
      rw [List.getElem?_map, List.getD_eq_getElem?_getD, List.getElem?_eq_getElem e1]; rfl
    refine ⟨.ref a, rfl, .int k, rfl, a, _, _, _, rfl, rfl, hS, atI_nat g, ?_⟩
    walk_at "rds"
    rw [abs_natAbs]
    exact q
  · have e2 : ¬ ((k : Int) < ((ns.map V.int).length : Int)) := fun z => e (decide_eq_true z)
    rw [List.length_map] at e2
    have e1 : ns.getD k 0 = 0 := by
      rw [List.getD_eq_getElem?_getD, List.getElem?_eq_none (by omega)]; rfl
    unfold cellA at q
    rw [e1] at q
    exact q
theorem c__law_draws (T : Txt K mg) : Cal P w K mg base 1 "_law_draws" (spDraws2 K) [] := by
  refine cal T.d__law_draws sc__law_draws (fun vs H Q E h => ?_) (fun f cdv A outer s H vs Q E hr h => ?_)
  · obtain ⟨a, ns, st, most, rfl, _⟩ := h; rfl
  obtain ⟨a, ns, st, most, rfl, hS, hlen, q⟩ := h
  refine ⟨_, (pss_cons (ps_set (i := 3) sc__law_draws.nd rfl (Or.inl rfl) (pe_lst pa_nil))
      (pss_cons (ps_for PassesOwn.never rfl (pi_list (pe_slice (ksll (K := K)) (pv 0) (po_some (pv 1)) po_none)) (pg_name (i := 4) sc__law_draws.nd rfl (Or.inl rfl)) (pss_cons (ps_set (i := 5) sc__law_draws.nd rfl (Or.inl rfl) (pe_callB call_abs (by rfl) T.z_abs (by decide +kernel) (pa_cons (pe_callTy call_int1 (by rfl) T.z_int (by decide +kernel) (pa_cons (pv 4) pa_nil)) pa_nil)))
      (pss_one (ps_if (pt_cmpR op_lt (pv 5) (pe_op op_pow pe_int pe_int) (nomark _)) (pss_cons (ps_set (i := 6) sc__law_draws.nd rfl (Or.inl rfl) (pe_op op_mod (pe_callTy call_int1 (by rfl) T.z_int (by decide +kernel) (pa_cons (pe_op op_add (pe_op op_mul (pv 5) pe_int) pe_int) pa_nil)) pe_int))
      (pss_cons (ps_expr (pe_bm PySem.F.plainAttrs_list PySem.F.slot_list_append PySem.F.type_list_append mt_append (pv 3) (pa_cons (pv 5) pa_nil)))
      (pss_cons (ps_expr (pe_bm PySem.F.plainAttrs_list PySem.F.slot_list_append PySem.F.type_list_append mt_append (pv 3) (pa_cons (pe_op op_fdiv (pe_op op_mod (pe_callTy call_int1 (by rfl) T.z_int (by decide +kernel) (pa_cons (pe_op op_add (pe_op op_add (pe_op op_mul (pv 6) pe_int) (pe_op op_fdiv (pv 5) pe_int)) pe_int) pa_nil)) pe_int) pe_int) pa_nil)))
      (pss_one (ps_expr (pe_bm PySem.F.plainAttrs_list PySem.F.slot_list_append PySem.F.type_list_append mt_append (pv 3) (pa_cons (pe_op op_fdiv (pe_op op_mod (pe_callTy call_int1 (by rfl) T.z_int (by decide +kernel) (pa_cons (pe_op op_add (pe_op op_add (pe_op op_mul (pv 6) pe_int) (pe_op op_fdiv (pv 5) pe_int)) pe_int) pa_nil)) pe_int) pe_int) pa_nil))))))) (pss_one (ps_for PassesOwn.never rfl (pi_range1 (by rfl) T.z_range (pa_cons pe_int pa_nil)) (pg_name (i := 7) sc__law_draws.nd rfl (Or.inl rfl)) (pss_cons (ps_if (pt_cmpR op_gt (pv 5) pe_int (nomark _)) (pss_one (ps_expr (pe_bm PySem.F.plainAttrs_list PySem.F.slot_list_append PySem.F.type_list_append mt_append (pv 3) (pa_cons (pe_op op_mod (pe_callTy call_int1 (by rfl) T.z_int (by decide +kernel) (pa_cons (pv 5) pa_nil)) pe_int) pa_nil)))) pss_nil)
      (pss_one (ps_set (i := 5) sc__law_draws.nd rfl (Or.inl rfl) (pe_op op_fdiv (pv 5) pe_int))))))))))
      (pss_one (ps_ret (pe_slice (ksll (K := K)) (pv 3) po_none (po_some (pv 2))))))), ?_⟩
  refine ⟨by decide, fun D hD => ?_⟩
  walk_at "rds"
  refine ⟨a, _, rfl, (same_upd hD).seq hS, fun p hp => ?_⟩
  obtain ⟨cs, ecs, hcl, _⟩ := cutV_map V.int ns (some (st : Int)) none
  rw [ecs]
  have sp : Same H (upd (upd H D (.lst [])) p (.lst (cs.map V.int))) := (same_upd hD).trans (same_upd hp)
  have hpD : p ≠ D := fun e => by rw [e, upd_same] at hp; cases hp
  refine ⟨p, rfl, ⟨_, sq upd_same⟩, ?_⟩
  refine for_it (walk_list (K := K) (a := p) (xs := cs.map V.int)) (Pv := fun i σ H' => ∃ y4 y5 y6 y7 ds, σ = [some (.ref a), some (.int st), some (.int most), some (.ref D), y4, y5, y6, y7] ∧ Same H H' ∧ H' p = some (.lst (cs.map V.int)) ∧ H' D = some (.lst (ds.map V.int)) ∧ (∀ d ∈ ds, 0 ≤ d ∧ d < 1000000000000000000) ∧ ds.length ≤ 20 * i) ⟨none, none, none, none, [], rfl, sp, upd_same, by rw [upd_ne hpD.symm]; exact upd_same, by simp, by simp⟩ (fun i σ H' _ h => by obtain ⟨_, _, _, _, _, _, _, h, _⟩ := h; exact sq h) (fun i x σ H1 H2 hi hp' hy => ?_) (fun σ H1 hp' => ?_)
  · obtain ⟨y4, y5, y6, y7, ds, rfl, sm, hpp, hd, hrg, hl⟩ := hp'
    obtain ⟨rfl, gx⟩ := hy
    rw [List.length_map] at hi
    rw [List.getElem?_map, List.getElem?_eq_getElem hi] at gx
    obtain rfl : V.int cs[i] = x := Option.some.inj gx
    walk_at "rds"
    rw [abs_natAbs]
    have hc0 : 0 ≤ ((cs[i].natAbs : Nat) : Int) := Int.natCast_nonneg _
    generalize ((cs[i].natAbs : Nat) : Int) = c at hc0
    refine ite2 (fun e => ?_) (fun e => ?_)
    · have e : c < (10 : Int) ^ (18 : Int).toNat := of_decide_eq_true e
      have e18 : (10 : Int) ^ (18 : Int).toNat = 10 ^ 18 := rfl
      have hc1 : c < 1000000000000000000 := by omega
      walk_at "rds"
      refine ⟨.inl ⟨rfl, _, sq hd⟩, ?_⟩
      walk_at "rds"
      refine ⟨_, _, _, rfl, rfl, hd, by rw [List.length_map]; exact sz1000' (by omega), ?_⟩
      generalize c * 48271 + 11 = m0
      have hm0 : 0 ≤ m0 % 2147483647 := Int.emod_nonneg _ (by decide)
      have hm1 : m0 % 2147483647 < 2147483647 := Int.emod_lt_of_pos _ (by decide)
      have e1 : upd H2 D (.lst (ds.map V.int ++ [.int c])) D = some (.lst ((ds ++ [c]).map V.int)) := lst_app
      have s1 : Same H (upd H2 D (.lst (ds.map V.int ++ [.int c]))) := same_mut sm hD
      have p1 : (upd H2 D (.lst (ds.map V.int ++ [.int c]))) p = some (.lst (cs.map V.int)) := by rw [upd_ne hpD]; exact hpp
      have r1 := rng_app2 hrg hc0 hc1
      have l1 : (ds ++ [c]).length ≤ 20 * i + 1 := by rw [List.length_append, List.length_singleton]; omega
      generalize upd H2 D (.lst (ds.map V.int ++ [.int c])) = H3 at e1 s1 p1
      generalize ds ++ [c] = ds1 at e1 r1 l1
      walk_at "rds"
      refine ⟨.inl ⟨rfl, _, sq e1⟩, ?_⟩
      walk_at "rds"
      refine ⟨_, _, _, rfl, rfl, e1, by rw [List.length_map]; exact sz1000' (by omega), ?_⟩
      have e2 : upd H3 D (.lst (ds1.map V.int ++ [.int ((m0 % 2147483647 * 16807 + c / 9 + 3) % 2147483647 / 7)])) D = some (.lst ((ds1 ++ [((m0 % 2147483647 * 16807 + c / 9 + 3) % 2147483647 / 7)]).map V.int)) := lst_app
      have s2 : Same H (upd H3 D (.lst (ds1.map V.int ++ [.int ((m0 % 2147483647 * 16807 + c / 9 + 3) % 2147483647 / 7)]))) := same_mut s1 hD
      have p2 : (upd H3 D (.lst (ds1.map V.int ++ [.int ((m0 % 2147483647 * 16807 + c / 9 + 3) % 2147483647 / 7)]))) p = some (.lst (cs.map V.int)) := by rw [upd_ne hpD]; exact p1
      have r2 := rng_app2 (x := ((m0 % 2147483647 * 16807 + c / 9 + 3) % 2147483647 / 7)) r1 (by omega) (by omega)
      have l2 : (ds1 ++ [((m0 % 2147483647 * 16807 + c / 9 + 3) % 2147483647 / 7)]).length ≤ 20 * i + 2 := by rw [List.length_append, List.length_singleton]; omega
      generalize ds1 ++ [((m0 % 2147483647 * 16807 + c / 9 + 3) % 2147483647 / 7)] = ds2 at e2 r2 l2
      walk_at "rds"
      refine ⟨.inl ⟨rfl, _, sq e2⟩, ?_⟩
      walk_at "rds"
      refine ⟨_, _, _, rfl, rfl, e2, by rw [List.length_map]; exact sz1000' (by omega), ?_⟩
      refine ⟨_, _, _, _, ds2 ++ [_], rfl, same_mut s2 hD, by rw [upd_ne hpD]; exact p2, lst_app, rng_app2 r2 (by omega) (by omega), ?_⟩
      rw [List.length_append, List.length_singleton]; omega
    · walk_at "rds"
      refine for_it walk_range (Pv := fun j σ H' => ∃ y4 y6 y7 ds c, σ = [some (.ref a), some (.int st), some (.int most), some (.ref D), y4, some (.int c), y6, y7] ∧ Same H H' ∧ H' p = some (.lst (cs.map V.int)) ∧ H' D = some (.lst (ds.map V.int)) ∧ (∀ d ∈ ds, 0 ≤ d ∧ d < 1000000000000000000) ∧ ds.length ≤ 20 * i + j ∧ 0 ≤ c) ⟨_, y6, y7, ds, c, rfl, sm, hpp, hd, hrg, by omega, by omega⟩ (fun _ _ _ _ _ => trivial) (fun j x σ H3 H4 hj hp hy => ?_) (fun σ H3 hp => ?_)
      · obtain ⟨z4, z6, z7, ds, c, rfl, sm, hpp, hd, hrg, hl, hc0⟩ := hp
        obtain ⟨rfl, rfl⟩ := hy
        have hj' : j < 20 := hj
        walk_at "rds"
        refine ite2 (fun e => ?_) (fun e => ?_)
        · walk_at "rds"
          refine ⟨.inl ⟨rfl, _, sq hd⟩, ?_⟩
          walk_at "rds"
          refine ⟨_, _, _, rfl, rfl, hd, by rw [List.length_map]; exact sz1000' (by omega), ?_⟩
          walk_at "rds"
          refine ⟨_, _, _, ds ++ [_], _, rfl, same_mut sm hD, by rw [upd_ne hpD]; exact hpp, lst_app, rng_app2 hrg (by omega) (by omega), ?_, by omega⟩
          rw [List.length_append, List.length_singleton]; omega
        · walk_at "rds"
          exact ⟨_, _, _, ds, _, rfl, sm, hpp, hd, hrg, by omega, by omega⟩
      · obtain ⟨z4, z6, z7, ds, c, rfl, sm, hpp, hd, hrg, hl, hc0⟩ := hp
        exact ⟨_, _, _, _, ds, rfl, sm, hpp, hd, hrg, by have : (20 : Int).toNat = 20 := rfl; omega⟩
  · obtain ⟨y4, y5, y6, y7, ds, rfl, sm, hpp, hd, hrg, hl⟩ := hp'
    walk_at "rds"
    refine ⟨D, _, rfl, sq hd, fun r hr => ?_⟩
    obtain ⟨es, ees, hes, hm⟩ := cutV_most ds most
    rw [ees]
    exact q _ r es (sm.trans (same_upd hr)) (same_none sm hr) upd_same (fun d hd => hrg d (hm d hd)) hes
end

/-! ### last numbers -/
/-- the dict of last numbers, by its pairs -/
def ndK (k : Int × Int) : Key × V := (Sum.inl k.1, V.int k.2)
def Nd (H : Hp) (p : Addr) (ks : List (Int × Int)) : Prop := H p = some (.dK (ks.map ndK))
def ndOpt (ks : List (Int × Int)) (c : Int) : Option Int := (ks.find? fun k => decide (k.1 = c)).map (·.2)
def ndGet (ks : List (Int × Int)) (c : Int) : Int := (ndOpt ks c).getD 0
def dNum : PyData → Int
  | .tuple [_, .int n, _] => n
  | _ => 0
theorem nd_val : ∀ (ks : List (Int × Int)) (c : Int), valV (ks.map ndK) (Sum.inl c : Key) = (ndOpt ks c).map V.int
  | [], _ => rfl
  | k :: r, c => by
    have ih := nd_val r c
    unfold valV ndOpt at ih ⊢
    rw [List.map_cons, List.find?_cons, List.find?_cons]
    by_cases h : k.1 = c
    · have h1 : decide ((ndK k).1 = (Sum.inl c : Key)) = true := decide_eq_true (by show (Sum.inl k.1 : Key) = Sum.inl c; rw [h])
      rw [h1, decide_eq_true h]; rfl
    · have h1 : decide ((ndK k).1 = (Sum.inl c : Key)) = false := decide_eq_false (fun z => h (Sum.inl.inj z))
      rw [h1, decide_eq_false h]; exact ih
def spLast : Sp := fun vs H Q _ => ∃ (p : Addr) (ks : List (Int × Int)) (c : Int), vs = [.ref p, .int c] ∧ Nd H p ks ∧ Q (.int (ndGet ks c)) H
def dFresh (ks : List (Int × Int)) (cs : List PyData) : Bool := cs.all fun d => decide (ndGet ks (dClient d) < dNum d)
def spFresh (K : PySem.W.Frag) : Sp := fun vs H Q _ => ∃ (p : Addr) (v : V) (ks : List (Int × Int)) (cs : List PyData), vs = [.ref p, v] ∧ Nd H p ks ∧ Dt K H none v (.tuple cs) ∧ (∀ d ∈ cs, dCmd d = true) ∧ Q (.bl (dFresh ks cs)) H
theorem Dt.nums {K : PySem.W.Frag} {H : Hp} {A : Option Addr} {x : V} {d : PyData} (h : dCmd d = true) (hx : Dt K H A x d) : ∃ a x3, x = .ref a ∧ TupAt K H a [.int (dClient d), .int (dNum d), x3] := by
  obtain ⟨c, n, t, rfl, _⟩ := dCmd_inv h
  obtain ⟨a, x1, x2, x3, rfl, ha, h1, h2, h3⟩ := hx.three
  cases h1; cases h2
  exact ⟨a, x3, rfl, ha⟩
def putN (ks : List (Int × Int)) (c n : Int) : List (Int × Int) := if (ks.any fun k => decide (k.1 = c)) = true then ks.map (fun k => if k.1 = c then (k.1, n) else k) else ks ++ [(c, n)]
theorem nd_put (ks : List (Int × Int)) (c n : Int) : putK (ks.map ndK) (Sum.inl c : Key) (V.int n) = (putN ks c n).map ndK := by
  have e : ∀ k : Int × Int, decide ((ndK k).1 = (Sum.inl c : Key)) = decide (k.1 = c) := fun k => decide_eq_decide.mpr ⟨fun z => Sum.inl.inj z, fun z => by show (Sum.inl k.1 : Key) = _; rw [z]⟩
  unfold putK putN
  rw [List.any_map]
  rw [show ((fun kv : Key × V => decide (kv.1 = (Sum.inl c : Key))) ∘ ndK) = fun k => decide (k.1 = c) from funext e]
  split
  · rw [List.map_map, List.map_map]
    refine List.map_congr_left fun k _ => ?_
    show (if (ndK k).1 = (Sum.inl c : Key) then ((ndK k).1, V.int n) else ndK k) = ndK (if k.1 = c then (k.1, n) else k)
    by_cases h : k.1 = c
    · rw [if_pos h, if_pos (by show (Sum.inl k.1 : Key) = _; rw [h])]; rfl
    · rw [if_neg h, if_neg (show ¬ (ndK k).1 = (Sum.inl c : Key) from fun z => h (Sum.inl.inj z))]
  · rw [List.map_append]; rfl
theorem putN_len (ks : List (Int × Int)) (c n : Int) : (putN ks c n).length ≤ ks.length + 1 := by
  unfold putN
  split
  · rw [List.length_map]; omega
  · rw [List.length_append]; exact Nat.le_refl _
def ndAfter (ks : List (Int × Int)) (cs : List PyData) : List (Int × Int) := cs.foldl (fun ks d => putN ks (dClient d) (dNum d)) ks
def spAfter (K : PySem.W.Frag) : Sp := fun vs H Q _ => ∃ (p : Addr) (v : V) (ks : List (Int × Int)) (cs : List PyData), vs = [.ref p, v] ∧ Nd H p ks ∧ Dt K H none v (.tuple cs) ∧ (∀ d ∈ cs, dCmd d = true) ∧ ks.length + cs.length ≤ 10000 ∧
  ∀ (r : Addr) (H' : Hp), H r = none → Same H H' → Nd H' r (ndAfter ks cs) → Q (.ref r) H'
section
variable {P : Program} {w : World} {K : PySem.W.Frag} {mg : Str → Option Value} {base : Heap}
theorem c_numbers_after (T : Txt K mg) : Cal P w K mg base 2 "numbers_after" (spAfter K) [] := by
  refine cal T.d_numbers_after sc_numbers_after (fun vs H Q E h => ?_) (fun f cdv A' outer s H vs Q E hr h => ?_)
  · obtain ⟨p, v, ks, cs, rfl, _⟩ := h; rfl
  obtain ⟨p, v, ks, cs, rfl, hp, hv, hc, hl, q⟩ := h
  refine ⟨_, (pss_cons (ps_set (i := 2) sc_numbers_after.nd rfl (Or.inl rfl) (pe_callTy call_dictD (by rfl) T.z_dict (by decide +kernel) (pa_cons (pv 0) pa_nil)))
      (pss_cons (ps_for PassesOwn.never rfl (pi_tup (pv 1)) (pg_tup (by rfl) (pgs_cons (pg_name (i := 3) sc_numbers_after.nd rfl (Or.inl rfl)) (pgs_cons (pg_name (i := 4) sc_numbers_after.nd rfl (Or.inl rfl)) (pgs_cons (pg_name (i := 5) sc_numbers_after.nd rfl (Or.inl rfl)) pgs_nil)))) (pss_one (ps_dput (hu_of hr) (pv 2) (pv 3) (pv 4) rfl)))
      (pss_one (ps_ret (pv 2))))), ?_⟩
  obtain ⟨b, xs, ds, rfl, e, hb, hx⟩ : ∃ b xs ds, v = .ref b ∧ PyData.tuple cs = .tuple ds ∧ TupAt K H b xs ∧ DtAll K H none xs ds := by
    cases hv with
    | tup hb hx => exact ⟨_, _, _, rfl, rfl, hb, hx⟩
  cases e
  walk_at "rds"
  refine ⟨p, _, rfl, .inl hp, fun r hr => ?_⟩
  walk_at "rds"
  refine ⟨⟨xs, (hb.same (same_upd hr)).sq⟩, ?_⟩
  refine for_it (walk_tup (K := K) (a := b) (xs := xs)) (Pv := fun i σ H' => ∃ y2 y3 y4, σ = [some (.ref p), some (.ref b), some (.ref r), y2, y3, y4] ∧ Same H H' ∧ ∃ ks', Nd H' r ks' ∧ ndAfter ks cs = ndAfter ks' (cs.drop i) ∧ ks'.length ≤ ks.length + i) ⟨none, none, none, rfl, same_upd hr, ks, upd_same, rfl, Nat.le_refl _⟩ (fun i σ H' _ h => by obtain ⟨_, _, _, _, sm, _⟩ := h; exact (hb.same sm).sq) (fun i x σ H2 H3 hi hy' hy => ?_) (fun σ H2 hy' => ?_)
  · obtain ⟨y2, y3, y4, rfl, sm, ks', hk, eq, hkl⟩ := hy'
    obtain ⟨rfl, gx⟩ := hy
    obtain ⟨d, gd, hdx⟩ := hx.get gx
    have ec := hc d (List.mem_of_getElem? gd)
    have hid : i < cs.length := (List.getElem?_eq_some_iff.mp gd).1
    have edrop : cs.drop i = d :: cs.drop (i + 1) := by
      rw [List.drop_eq_getElem_cons hid]
      rw [List.getElem?_eq_getElem hid] at gd
      cases gd; rfl
    rw [edrop] at eq
    obtain ⟨aq, x3, rfl, haq⟩ := Dt.nums ec (hdx.on sm)
    refine ⟨aq, _, rfl, haq.sq, rfl, _, _, rfl, _, _, rfl, _, _, rfl, rfl, ?_⟩
    walk_at "rds"
    refine ⟨r, _, rfl, DPut.k (k := Sum.inl (dClient d)) hk (by rw [List.length_map]; exact sz1000' (by omega)), ?_⟩
    refine ⟨_, _, _, rfl, same_mut sm hr, putN ks' (dClient d) (dNum d), ?_, eq, by have := putN_len ks' (dClient d) (dNum d); omega⟩
    show upd _ r _ r = _
    rw [upd_same, nd_put]
  · obtain ⟨y2, y3, y4, rfl, sm, ks', hk, eq, hkl⟩ := hy'
    walk_at "rds"
    rw [List.drop_of_length_le (by rw [hx.length]; exact Nat.le_refl _)] at eq
    refine q _ _ hr sm ?_
    rw [eq]
    exact hk
end

/-! ### the keys of last numbers -/
theorem ndAfter_len : ∀ (cs : List PyData) (ks : List (Int × Int)), (ndAfter ks cs).length ≤ ks.length + cs.length
  | [], _ => Nat.le_refl _
  | c :: r, ks => by
    have h := ndAfter_len r (putN ks (dClient c) (dNum c))
    have h2 := putN_len ks (dClient c) (dNum c)
    show (ndAfter (putN ks (dClient c) (dNum c)) r).length ≤ _
    rw [List.length_cons]; omega
def keysOk (ks : List (Int × Int)) : Prop := (ks.map (·.1)).Nodup
theorem putN_keys {ks : List (Int × Int)} (c n : Int) (h : keysOk ks) : keysOk (putN ks c n) := by
  unfold keysOk putN at *
  split
  · rw [List.map_map]
    have : ((fun x : Int × Int => x.1) ∘ fun k : Int × Int => if k.1 = c then (k.1, n) else k) = (·.1) := by
      funext k
      show (if k.1 = c then (k.1, n) else k).1 = k.1
      split <;> rfl
    rw [this]; exact h
  · rename_i hn
    rw [List.map_append, List.nodup_append]
    refine ⟨h, by simp, fun a ha b hb => ?_⟩
    have hb : b = c := by simpa using hb
    rw [hb]
    intro e
    obtain ⟨k, hk, ek⟩ := List.mem_map.mp ha
    exact hn (List.any_eq_true.mpr ⟨k, hk, decide_eq_true (ek.trans e)⟩)
theorem ndAfter_keys : ∀ (cs : List PyData) {ks : List (Int × Int)}, keysOk ks → keysOk (ndAfter ks cs)
  | [], _, h => h
  | c :: r, ks, h => ndAfter_keys r (putN_keys (dClient c) (dNum c) h)
theorem ndOpt_mem : ∀ {ks : List (Int × Int)}, keysOk ks → ∀ k ∈ ks, ndOpt ks k.1 = some k.2
  | [], _, _, m => nomatch m
  | q :: r, h, k, m => by
    unfold keysOk at h
    rw [List.map_cons, List.nodup_cons] at h
    unfold ndOpt
    rw [List.find?_cons]
    rcases List.mem_cons.mp m with rfl | m
    · rw [decide_eq_true rfl]; rfl
    · by_cases e : q.1 = k.1
      · exact absurd (e ▸ List.mem_map_of_mem (f := (·.1)) m) h.1
      · rw [decide_eq_false e]
        exact ndOpt_mem (ks := r) h.2 k m

/-! ### numbers along a path -/
def dBlkCs : PyData → List PyData
  | .tuple [_, _, _, .tuple cs] => cs
  | _ => []
def dBlkOk : PyData → Bool
  | .tuple [.int _, .int _, .int _, .tuple cs] => cs.all dCmd && decide (cs.length ≤ 100)
  | _ => false
theorem dBlkOk_inv {d : PyData} (h : dBlkOk d = true) : ∃ e p t cs, d = .tuple [.int e, .int p, .int t, .tuple cs] ∧ (∀ c ∈ cs, dCmd c = true) ∧ cs.length ≤ 100 := by
  unfold dBlkOk at h
  split at h
  · rw [Bool.and_eq_true] at h
    exact ⟨_, _, _, _, rfl, fun c hc => List.all_eq_true.mp h.1 c hc, of_decide_eq_true h.2⟩
  · cases h
theorem noLs_cmds {ds : List PyData} (h : ∀ d ∈ ds, dCmd d = true) : noLs ds = true := noLs_all fun d hd => dCmd_noL (h d hd)
theorem dBlkOk_noL {d : PyData} (h : dBlkOk d = true) : noL d = true := by
  obtain ⟨e, p, t, cs, rfl, hc, _⟩ := dBlkOk_inv h
  show (noL (.int e) && (noL (.int p) && (noL (.int t) && (noL (.tuple cs) && noLs [])))) = true
  rw [show noL (.tuple cs) = true from noLs_cmds hc]; rfl
def alongN (ks : List (Int × Int)) (bs : List PyData) : List (Int × Int) := bs.foldl (fun ks b => ndAfter ks (dBlkCs b)) ks
theorem alongN_len : ∀ (bs : List PyData) (ks : List (Int × Int)), (∀ b ∈ bs, dBlkOk b = true) → (alongN ks bs).length ≤ ks.length + 100 * bs.length
  | [], _, _ => Nat.le_refl _
  | b :: r, ks, h => by
    have h1 := alongN_len r (ndAfter ks (dBlkCs b)) (fun z hz => h z (List.mem_cons_of_mem _ hz))
    have h2 := ndAfter_len (dBlkCs b) ks
    obtain ⟨e, p, t, cs, rfl, _, hl⟩ := dBlkOk_inv (h b List.mem_cons_self)
    have h3 : (dBlkCs (.tuple [.int e, .int p, .int t, .tuple cs])).length = cs.length := rfl
    show (alongN (ndAfter ks (dBlkCs _)) r).length ≤ _
    rw [List.length_cons]; omega
theorem alongN_keys : ∀ (bs : List PyData) {ks : List (Int × Int)}, keysOk ks → keysOk (alongN ks bs)
  | [], _, h => h
  | b :: r, ks, h => alongN_keys r (ndAfter_keys (dBlkCs b) h)
/-- two dicts of the same pairs are equal -/
theorem nd_eq {K : PySem.W.Frag} {H : Hp} {ks : List (Int × Int)} (h : keysOk ks) : ∀ p ∈ ks.map ndK, ∃ u, valV (ks.map ndK) p.1 = some u ∧ EqV K H 1 p.2 u := by
  intro p hp
  obtain ⟨k, hk, rfl⟩ := List.mem_map.mp hp
  refine ⟨V.int k.2, ?_, .inl ⟨rfl, rfl⟩⟩
  show valV (ks.map ndK) (Sum.inl k.1) = _
  rw [nd_val, ndOpt_mem h k hk]; rfl
def spAlong (K : PySem.W.Frag) : Sp := fun vs H Q _ => ∃ (p l : Addr) (ks : List (Int × Int)) (xs : List V) (bs : List PyData), vs = [.ref p, .ref l] ∧ Nd H p ks ∧ H l = some (.lst xs) ∧ DtAll K H none xs bs ∧ (∀ b ∈ bs, dBlkOk b = true) ∧ bs.length ≤ 90 ∧ ks.length ≤ 900 ∧
  ∀ (r : Addr) (H' : Hp), H r = none → Same H H' → Nd H' r (alongN ks bs) → Q (.ref r) H'
section
variable {P : Program} {w : World} {K : PySem.W.Frag} {mg : Str → Option Value} {base : Heap}
theorem c_numbers_along (T : Txt K mg) : Cal P w K mg base 3 "numbers_along" (spAlong K) [] := by
  have c_numbers_after := c_numbers_after (P := P) (w := w) (base := base) T
  refine cal T.d_numbers_along sc_numbers_along (fun vs H Q E h => ?_) (fun f cdv A' outer s H vs Q E hr h => ?_)
  · obtain ⟨p, l, ks, xs, bs, rfl, _⟩ := h; rfl
  obtain ⟨p, l, ks, xs, bs, rfl, hp, hl, hx, hb, hbl, hkl, q⟩ := h
  refine ⟨_, (pss_cons (ps_set (i := 2) sc_numbers_along.nd rfl (Or.inl rfl) (pe_callTy call_dictD (by rfl) T.z_dict (by decide +kernel) (pa_cons (pv 0) pa_nil)))
      (pss_cons (ps_for PassesOwn.never rfl (pi_list (pv 1)) (pg_name (i := 3) sc_numbers_along.nd rfl (Or.inl rfl)) (pss_one (ps_set (i := 2) sc_numbers_along.nd rfl (Or.inl rfl) (pe_c c_numbers_after hr (by decide) (by rfl) (pa_cons (pv 2) (pa_cons (pe_ix (kixt (K := K)) (pv 3) pe_int (fun _ _ => rfl)) pa_nil))))))
      (pss_one (ps_ret (pv 2))))), ?_⟩
  walk_at "rds"
  refine ⟨p, _, rfl, .inl hp, fun r hr => ?_⟩
  walk_at "rds"
  refine ⟨⟨xs, sq ((same_upd hr) _ _ hl)⟩, ?_⟩
  refine for_it (walk_list (K := K) (a := l) (xs := xs)) (Pv := fun i σ H' => ∃ r y3 ks', σ = [some (.ref p), some (.ref l), some (.ref r), y3] ∧ Same H H' ∧ H r = none ∧ Nd H' r ks' ∧ alongN ks bs = alongN ks' (bs.drop i) ∧ ks'.length ≤ ks.length + 100 * i) ⟨r, none, ks, rfl, same_upd hr, hr, upd_same, rfl, Nat.le_refl _⟩ (fun i σ H' _ h => by obtain ⟨_, _, _, _, sm, _⟩ := h; exact sq (sm _ _ hl)) (fun i x σ H2 H3 hi hy' hy => ?_) (fun σ H2 hy' => ?_)
  · obtain ⟨r, y3, ks', rfl, sm, hr, hk, eq, hkl'⟩ := hy'
    obtain ⟨rfl, gx⟩ := hy
    obtain ⟨d, gd, hdx⟩ := hx.get gx
    have eb := hb d (List.mem_of_getElem? gd)
    have hid : i < bs.length := (List.getElem?_eq_some_iff.mp gd).1
    have edrop : bs.drop i = d :: bs.drop (i + 1) := by
      rw [List.drop_eq_getElem_cons hid]
      rw [List.getElem?_eq_getElem hid] at gd
      cases gd; rfl
    rw [edrop] at eq
    obtain ⟨e1, e2, e3, cs, rfl, hc, hcl⟩ := dBlkOk_inv eb
    cases hdx.on sm with
    | tup ha hxx =>
      rename_i a ys
      obtain ⟨x1, x2, x3, x4, d1, d2, d3, d4, rfl, e, h1, h2, h3, h4⟩ := hxx.four (by rw [hxx.length]; rfl)
      cases e
      walk_at "rds"
      refine ⟨a, _, 3, _, rfl, rfl, ha.sq, atI_nat (j := 3) rfl, ?_⟩
      refine ⟨r, _, ks', cs, rfl, hk, h4, hc, by omega, fun r2 H4 hr2 sm2 hk2 => ?_⟩
      refine ⟨r2, _, _, rfl, sm.trans sm2, same_none sm hr2, hk2, eq, ?_⟩
      have := ndAfter_len cs ks'
      omega
  · obtain ⟨r, y3, ks', rfl, sm, hr, hk, eq, hkl'⟩ := hy'
    walk_at "rds"
    rw [List.drop_of_length_le (by rw [hx.length]; exact Nat.le_refl _)] at eq
    refine q _ _ hr sm ?_
    rw [eq]
    exact hk
end

/-! ### the law -/
def spCmds (K : PySem.W.Frag) : Sp := fun vs H Q _ => ∃ (d : Int), vs = [.int d] ∧ 0 ≤ d ∧
  ∀ (H' : Hp) (x : V) (cs : List PyData), Same H H' → Dt K H' none x (.tuple cs) → (∀ c ∈ cs, dCmd c = true) → cs.length ≤ 3 → Q x H'
theorem DtAll.put {K : PySem.W.Frag} {H : Hp} {A : Option Addr} {l : Addr} {xs ys : List V} {vs : List V} {ds : List PyData} (h : DtAll K H A vs ds) (n : noLs ds = true) (e : H l = some (.lst xs)) : DtAll K (upd H l (.lst ys)) A vs ds := DtAll.keep (tp_put e) ds vs n h
theorem tp_mod {H H' : Hp} {X : Addr} {kv : List (Key × V)} (m : Mod X H H') (e : H X = some (.dK kv)) : Tp H H' := fun a xs h => m _ _ (ne_of h e (by intro z; cases z)) h
section
variable {P : Program} {w : World} {K : PySem.W.Frag} {mg : Str → Option Value} {base : Heap}
theorem c__law_commands (T : Txt K mg) : Cal P w K mg base 1 "_law_commands" (spCmds K) [] := by
  refine cal T.d__law_commands sc__law_commands (fun vs H Q E h => ?_) (fun f cdv A' outer s H vs Q E hr h => ?_)
  · obtain ⟨d, rfl, _⟩ := h; rfl
  obtain ⟨d, rfl, hd, q⟩ := h
  refine ⟨_, (pss_cons (ps_set (i := 1) sc__law_commands.nd rfl (Or.inl rfl) (pe_lst pa_nil))
      (pss_cons (ps_for PassesOwn.never rfl (pi_list (pe_lst (pa_cons (pe_un un_neg pe_int) (pa_cons (pe_un un_neg pe_int) (pa_cons (pe_un un_neg pe_int) pa_nil))))) (pg_name (i := 2) sc__law_commands.nd rfl (Or.inl rfl)) (pss_cons (ps_if (pt_cmpR op_gt (pe_op op_mod (pv 0) pe_int) pe_int (nomark _)) (pss_one (ps_expr (pe_bm PySem.F.plainAttrs_list PySem.F.slot_list_append PySem.F.type_list_append mt_append (pv 1) (pa_cons (pe_tup (pa_cons (pv 2) (pa_cons (pe_op op_add pe_int (pe_op op_mod (pe_op op_fdiv (pv 0) pe_int) pe_int)) (pa_cons pe_str pa_nil)))) pa_nil)))) pss_nil)
      (pss_one (ps_set (i := 0) sc__law_commands.nd rfl (Or.inl rfl) (pe_op op_fdiv (pv 0) pe_int)))))
      (pss_one (ps_ret (pe_callTy call_tuple_of (by rfl) T.z_tuple (by decide +kernel) (pa_cons (pv 1) pa_nil)))))), ?_⟩
  refine ⟨by decide, fun C hC => ?_⟩
  walk_at "rds"
  intro L hL
  refine ⟨L, rfl, ⟨_, sq upd_same⟩, ?_⟩
  have hCL : C ≠ L := fun e => by rw [← e, upd_same] at hL; cases hL
  refine for_it (walk_list (K := K) (a := L) (xs := [.int (-30), .int (-2), .int (-1)])) (Pv := fun i σ H' => ∃ d y xs cs, σ = [some (.int d), some (.ref C), y] ∧ 0 ≤ d ∧ Same H H' ∧ H' L = some (.lst [.int (-30), .int (-2), .int (-1)]) ∧ H' C = some (.lst xs) ∧ DtAll K H' none xs cs ∧ (∀ c ∈ cs, dCmd c = true) ∧ cs.length ≤ i) ⟨d, none, [], [], rfl, hd, (same_upd hC).trans (same_upd hL), upd_same, by rw [upd_ne hCL]; exact upd_same, .nil, (fun _ m => nomatch m), Nat.le_refl _⟩ (fun i σ H' _ h => by obtain ⟨_, _, _, _, _, _, _, h, _⟩ := h; exact sq h) (fun i x σ H1 H2 hi hp' hy => ?_) (fun σ H1 hp' => ?_)
  · obtain ⟨d, y, xs, cs, rfl, hd, sm, hl, hc, hx, hcs, hlen⟩ := hp'
    obtain ⟨rfl, gx⟩ := hy
    have hx3 : ∃ c : Int, x = .int c ∧ -100 ≤ c ∧ c ≤ -1 := by
      match i, gx with
      | 0, gx => cases gx; exact ⟨-30, rfl, by decide, by decide⟩
      | 1, gx => cases gx; exact ⟨-2, rfl, by decide, by decide⟩
      | 2, gx => cases gx; exact ⟨-1, rfl, by decide, by decide⟩
    obtain ⟨c, rfl, c0, c1⟩ := hx3
    have hi3 : i < 3 := hi
    walk_at "rds"
    refine ite2 (fun e => ?_) (fun e => ?_)
    · walk_at "rds"
      refine ⟨.inl ⟨rfl, _, sq hc⟩, ?_⟩
      walk_at "rds"
      intro t ht
      have hc2 : upd H2 t (.tup [.int c, .int (1 + d / 3 % 999), .str (Str.ofString "get a")]) C = some (.lst xs) := (same_upd ht) _ _ hc
      have hx2 := hx.on (same_upd (o := .tup [.int c, .int (1 + d / 3 % 999), .str (Str.ofString "get a")]) ht)
      have hn : dCmd (.tuple [.int c, .int (1 + d / 3 % 999), .str (Str.ofString "get a")]) = true := by
        show (decide (-100 ≤ c ∧ c ≤ -1) && decide (1 ≤ 1 + d / 3 % 999 ∧ 1 + d / 3 % 999 ≤ 1000000000000) && dShort 240 (.str (Str.ofString "get a"))) = true
        rw [decide_eq_true ⟨c0, c1⟩, decide_eq_true (by omega), show dShort 240 (.str (Str.ofString "get a")) = true by decide +kernel]; rfl
      have hdt : Dt K (upd H2 t (.tup [.int c, .int (1 + d / 3 % 999), .str (Str.ofString "get a")])) none (.ref t) (.tuple [.int c, .int (1 + d / 3 % 999), .str (Str.ofString "get a")]) :=
        .tup (.inl upd_same) (.cons (.int _) (.cons (.int _) (.cons (.str _ (by decide +kernel)) .nil)))
      have hne : t ≠ C := fun e => by rw [e, hc] at ht; cases ht
      have htL : t ≠ L := fun e => by rw [e, hl] at ht; cases ht
      have hx3 := (hx2.snoc hdt).put (ys := xs ++ [.ref t]) (noLs_cmds (fun z hz => by
        rcases List.mem_append.mp hz with hz | hz
        · exact hcs z hz
        · rw [List.mem_singleton.mp hz]; exact hn)) hc2
      have hxl : xs.length ≤ 3 := by rw [hx.length]; omega
      refine ⟨C, xs, _, rfl, rfl, hc2, sz1000' (by omega), ?_⟩
      walk_at "rds"
      refine ⟨_, _, _, cs ++ [_], rfl, by omega, same_mut (sm.trans (same_upd ht)) hC, ?_, upd_same, hx3, fun z hz => ?_, ?_⟩
      · rw [upd_ne hCL.symm]; exact (same_upd ht) _ _ hl
      · rcases List.mem_append.mp hz with hz | hz
        · exact hcs z hz
        · rw [List.mem_singleton.mp hz]; exact hn
      · rw [List.length_append, List.length_singleton]; omega
    · walk_at "rds"
      exact ⟨_, _, xs, cs, rfl, by omega, sm, hl, hc, hx, hcs, by omega⟩
  · obtain ⟨d, y, xs, cs, rfl, hd, sm, hl, hc, hx, hcs, hlen⟩ := hp'
    walk_at "rds"
    refine ⟨C, xs, rfl, .inl ⟨sq hc, fun p hp => ?_⟩⟩
    exact q _ _ cs (sm.trans (same_upd hp)) (.tup (.inl upd_same) (hx.on (same_upd hp))) hcs hlen
theorem ok_law {f : Addr} {fd : FuncData} (F : L2.Fun K "law" "law" s_law f fd) (T : Txt K mg) : FnOk P w K mg base L2.CX0 4 f fd ["script"] (spLaw K) := by
  have c__law_cell := c__law_cell (P := P) (w := w) (base := base) T
  have c__law_draws := c__law_draws (P := P) (w := w) (base := base) T
  have c__law_commands := c__law_commands (P := P) (w := w) (base := base) T
  have c_numbers_along := c_numbers_along (P := P) (w := w) (base := base) T
  refine F.ok sc_law (fun vs H Q E h => ?_) (fun cdv A outer s H vs Q E hr h => ?_)
  · obtain ⟨a, ns, rfl, _⟩ := h; rfl
  obtain ⟨a, ns, rfl, hS, hlen, q⟩ := h
  refine ⟨_, (pss_cons (ps_set (i := 1) sc_law.nd rfl (Or.inl rfl) (pe_c c__law_cell hr (by decide) (by rfl) (pa_cons (pv 0) (pa_cons pe_int pa_nil))))
      (pss_cons (ps_set (i := 2) sc_law.nd rfl (Or.inl rfl) pe_dnewK)
      (pss_cut (ps_if (pt_cmpR op_eq (pe_op op_mod (pv 1) pe_int) pe_int (nomark _)) (pss_one (ps_dput (hu_of hr) (pv 2) (pe_un un_neg pe_int) (pe_op op_mod (pe_op op_fdiv (pv 1) pe_int) pe_int) rfl)) pss_nil)
      (pss_cut (ps_if (pt_cmpR op_eq (pe_op op_mod (pe_op op_fdiv (pv 1) pe_int) pe_int) pe_int (nomark _)) (pss_one (ps_dput (hu_of hr) (pv 2) (pe_un un_neg pe_int) (pe_op op_mod (pe_op op_fdiv (pv 1) pe_int) pe_int) rfl)) pss_nil)
      (pss_cons (ps_set (i := 3) sc_law.nd rfl (Or.inl rfl) (pe_lst pa_nil))
      (pss_cons (ps_for PassesOwn.never rfl (pi_list (pe_c c__law_draws hr (by decide) (by rfl) (pa_cons (pv 0) (pa_cons pe_int (pa_cons pe_int pa_nil))))) (pg_name (i := 4) sc_law.nd rfl (Or.inl rfl)) (pss_one (ps_expr (pe_bm PySem.F.plainAttrs_list PySem.F.slot_list_append PySem.F.type_list_append mt_append (pv 3) (pa_cons (pe_tup (pa_cons (pe_op op_add (pe_callB (klen (K := K)) (by rfl) T.z_len (by decide +kernel) (pa_cons (pv 3) pa_nil)) pe_int) (pa_cons (pe_callB (klen (K := K)) (by rfl) T.z_len (by decide +kernel) (pa_cons (pv 3) pa_nil)) (pa_cons (pe_op op_add (pe_callB (klen (K := K)) (by rfl) T.z_len (by decide +kernel) (pa_cons (pv 3) pa_nil)) pe_int) (pa_cons (pe_c c__law_commands hr (by decide) (by rfl) (pa_cons (pv 4) pa_nil)) pa_nil))))) pa_nil)))))
      (pss_cons (ps_set (i := 5) sc_law.nd rfl (Or.inl rfl) (pe_callTy call_dictD (by rfl) T.z_dict (by decide +kernel) (pa_cons (pv 2) pa_nil)))
      (pss_cons (ps_set (i := 6) sc_law.nd rfl (Or.inl rfl) (pe_callTy call_dictD (by rfl) T.z_dict (by decide +kernel) (pa_cons (pv 2) pa_nil)))
      (pss_cons (ps_for PassesOwn.never rfl (pi_list (pv 3)) (pg_name (i := 7) sc_law.nd rfl (Or.inl rfl)) (pss_one (ps_for PassesOwn.never rfl (pi_tup (pe_ix (kixt (K := K)) (pv 7) pe_int (fun _ _ => rfl))) (pg_name (i := 8) sc_law.nd rfl (Or.inl rfl)) (pss_one (ps_dput (hu_of hr) (pv 6) (pe_ix (kixt (K := K)) (pv 8) pe_int (fun _ _ => rfl)) (pe_ix (kixt (K := K)) (pv 8) pe_int (fun _ _ => rfl)) rfl)))))
      (pss_cons (ps_set (i := 9) sc_law.nd rfl (Or.inl rfl) (pe_c c_numbers_along hr (by decide) (by rfl) (pa_cons (pv 2) (pa_cons (pv 3) pa_nil))))
      (pss_cons (ps_if (PW.pt (pw_or (pt_not (pt_val (pe_callB (kisi (K := K)) (by rfl) T.z_isinstance (by decide +kernel) (pa_cons (pv 9) (pa_cons (pe_bltn (v := .ty "dict") (by rfl) T.z_dict (by decide +kernel) rfl) pa_nil))))) (pw_or (pt_cmpR (op_neDict hr.units) (pv 9) (pv 6) (nomark _)) (pw_or1 (pt_cmpR (op_neDict hr.units) (pv 2) (pv 5) (nomark _)))))) (pss_one (ps_ret pe_bl)) pss_nil)
      (pss_cons (ps_dput (hu_of hr) (pv 9) (pe_un un_neg pe_int) pe_int rfl)
      (pss_one (ps_ret (pe_and (pe_cmpR (op_eqV hr.units) (pe_c c_numbers_along hr (by decide) (by rfl) (pa_cons (pv 2) (pa_cons (pv 3) pa_nil))) (pv 6) (nomark _)) (pe_one (pe_cmpR (op_eqV hr.units) (pv 2) (pv 5) (nomark _)))))))))))))))))), ?_⟩
  walk_at "rds"
  refine ⟨a, ns, 0, rfl, hS, ?_⟩
  walk_at "rds"
  intro S hSn
  have hc0 := cellA_nonneg ns 0
  generalize cellA ns 0 = c at hc0
  refine ⟨fun σ' H' => ∃ ks, σ' = [some (.ref a), some (.int c), some (.ref S), none, none, none, none, none, none, none] ∧ Same H H' ∧ Nd H' S ks ∧ keysOk ks ∧ ks.length ≤ 1, ?_, ?_⟩
  · walk_at "rds"
    refine ite2 (fun e => ?_) (fun e => ?_)
    · walk_at "rds"
      refine ⟨S, _, rfl, DPut.k (k := Sum.inl (-1)) upd_same (by decide), ?_⟩
      refine ⟨putN [] (-1) (c / 2 % 50), rfl, same_mut (same_upd hSn) hSn, ?_, putN_keys _ _ List.nodup_nil, putN_len _ _ _⟩
      show upd _ S _ S = _
      rw [upd_same, ← nd_put]; rfl
    · exact ⟨[], rfl, same_upd hSn, upd_same, List.nodup_nil, by decide⟩
  rintro σ' H1 ⟨ks, rfl, sm, hk, ho, hkl⟩
  walk_at "rds"
  refine ⟨fun σ' H' => ∃ ks, σ' = [some (.ref a), some (.int c), some (.ref S), none, none, none, none, none, none, none] ∧ Same H H' ∧ Nd H' S ks ∧ keysOk ks ∧ ks.length ≤ 2, ?_, ?_⟩
  · walk_at "rds"
    refine ite2 (fun e => ?_) (fun e => ?_)
    · walk_at "rds"
      refine ⟨S, _, rfl, DPut.k (k := Sum.inl (-7)) hk (by rw [List.length_map]; exact sz1000' (by omega)), ?_⟩
      refine ⟨putN ks (-7) (c / 200 % 50), rfl, same_mut sm hSn, ?_, putN_keys _ _ ho, by have := putN_len ks (-7) (c / 200 % 50); omega⟩
      show upd _ S _ S = _
      rw [upd_same, ← nd_put]
    · exact ⟨ks, rfl, sm, hk, ho, by omega⟩
  rintro σ' H1 ⟨ks, rfl, sm, hk, ho, hkl⟩
  walk_at "rds"
  intro B hB
  walk_at "rds"
  refine ⟨a, ns, 1, 12, rfl, (sm.trans (same_upd hB)).seq hS, hlen, fun H2 D ds s2 hD0 hD hrg hdl => ?_⟩
  walk_at "rds"
  have hB0 : H B = none := same_none sm hB
  have hSB : S ≠ B := ne_of_none hk hB
  have hBD : B ≠ D := ne_of_none upd_same hD0
  refine ⟨⟨_, sq hD⟩, ?_⟩
  refine for_it (walk_list (K := K) (a := D) (xs := ds.map V.int)) (Pv := fun i σ H' => ∃ y4 xs bs, σ = [some (.ref a), some (.int c), some (.ref S), some (.ref B), y4, none, none, none, none, none] ∧ Same H H' ∧ Nd H' S ks ∧ H' D = some (.lst (ds.map V.int)) ∧ H' B = some (.lst xs) ∧ DtAll K H' none xs bs ∧ (∀ b ∈ bs, dBlkOk b = true) ∧ bs.length ≤ i) ⟨none, [], [], rfl, (sm.trans (same_upd hB)).trans s2, s2 _ _ ((same_upd hB) _ _ hk), hD, s2 _ _ upd_same, .nil, (fun _ m => nomatch m), Nat.le_refl _⟩ (fun i σ H' _ h => by obtain ⟨_, _, _, _, _, _, h, _⟩ := h; exact sq h) (fun i x σ H3 H4 hi hp' hy => ?_) (fun σ H3 hp' => ?_)
  · obtain ⟨y4, xs, bs, rfl, sm, hk, hD, hBl, hx, hb, hbl⟩ := hp'
    obtain ⟨rfl, gx⟩ := hy
    rw [List.length_map] at hi
    rw [List.getElem?_map, List.getElem?_eq_getElem hi] at gx
    obtain rfl : V.int ds[i] = x := Option.some.inj gx
    have hdi := hrg ds[i] (List.getElem_mem hi)
    walk_at "rds"
    refine ⟨.inl ⟨rfl, _, sq hBl⟩, ?_⟩
    walk_at "rds"
    refine ⟨B, xs, rfl, .inl (sq hBl), ?_⟩
    walk_at "rds"
    refine ⟨B, xs, rfl, .inl (sq hBl), ?_⟩
    walk_at "rds"
    refine ⟨B, xs, rfl, .inl (sq hBl), ?_⟩
    walk_at "rds"
    refine ⟨hdi.1, fun H5 v cs s5 hv hc hcl => ?_⟩
    walk_at "rds"
    intro t ht
    have s6 : Same H4 (upd H5 t (.tup [.int ((xs.length : Int) + 1), .int xs.length, .int ((xs.length : Int) + 1), v])) := s5.trans (same_upd ht)
    have hdt : Dt K (upd H5 t (.tup [.int ((xs.length : Int) + 1), .int xs.length, .int ((xs.length : Int) + 1), v])) none (.ref t) (.tuple [.int ((xs.length : Int) + 1), .int xs.length, .int ((xs.length : Int) + 1), .tuple cs]) :=
      .tup (.inl upd_same) (.cons (.int _) (.cons (.int _) (.cons (.int _) (.cons (hv.on (same_upd ht)) .nil))))
    have hn : dBlkOk (.tuple [.int ((xs.length : Int) + 1), .int xs.length, .int ((xs.length : Int) + 1), .tuple cs]) = true := by
      show (cs.all dCmd && decide (cs.length ≤ 100)) = true
      rw [List.all_eq_true.mpr hc, decide_eq_true (by omega)]; rfl
    have hx2 := (hx.on s6).snoc hdt
    have hb2 : ∀ b ∈ bs ++ [.tuple [.int ((xs.length : Int) + 1), .int xs.length, .int ((xs.length : Int) + 1), .tuple cs]], dBlkOk b = true := fun z hz => by
      rcases List.mem_append.mp hz with hz | hz
      · exact hb z hz
      · rw [List.mem_singleton.mp hz]; exact hn
    have hx3 := hx2.put (ys := xs ++ [.ref t]) (noLs_all fun z hz => dBlkOk_noL (hb2 z hz)) (s6 _ _ hBl)
    refine ⟨B, xs, _, rfl, rfl, s6 _ _ hBl, by rw [hx.length]; exact sz1000' (by omega), ?_⟩
    refine ⟨_, _, _, rfl, ?_, ?_, ?_, upd_same, hx3, hb2, ?_⟩
    · exact same_mut (sm.trans s6) hB0
    · show upd _ B _ S = _
      rw [upd_ne hSB]; exact s6 _ _ hk
    · rw [upd_ne hBD.symm]; exact s6 _ _ hD
    · rw [List.length_append, List.length_singleton]; omega
  obtain ⟨y4, xs, bs, rfl, sm, hk, hD, hBl, hx, hb, hbl⟩ := hp'
  rw [List.length_map] at hbl
  walk_at "rds"
  refine ⟨S, _, rfl, .inl hk, fun Kp hKp => ?_⟩
  walk_at "rds"
  refine ⟨S, _, rfl, .inl ((same_upd hKp) _ _ hk), fun X hX => ?_⟩
  walk_at "rds"
  have hKX : Kp ≠ X := ne_of_none upd_same hX
  have hSX : S ≠ X := ne_of_none ((same_upd hKp) _ _ hk) hX
  have hBX : B ≠ X := ne_of_none ((same_upd hKp) _ _ hBl) hX
  have sb : Same H3 (upd (upd H3 Kp (.dK (ks.map ndK))) X (.dK (ks.map ndK))) := (same_upd hKp).trans (same_upd hX)
  have hX1 : upd (upd H3 Kp (.dK (ks.map ndK))) X (.dK (ks.map ndK)) X = some (.dK (ks.map ndK)) := upd_same
  have hK1 : upd (upd H3 Kp (.dK (ks.map ndK))) X (.dK (ks.map ndK)) Kp = some (.dK (ks.map ndK)) := by rw [upd_ne hKX]; exact upd_same
  generalize upd (upd H3 Kp (.dK (ks.map ndK))) X (.dK (ks.map ndK)) = Hb at sb hX1 hK1
  have hS1 := sb _ _ hk
  have hB1 := sb _ _ hBl
  have hx1 := hx.on sb
  have hnl : noLs bs = true := noLs_all fun z hz => dBlkOk_noL (hb z hz)
  refine ⟨⟨_, sq hB1⟩, ?_⟩
  refine for_it (walk_list (K := K) (a := B) (xs := xs)) (Pv := fun i σ H' => ∃ y7 y8 ks', σ = [some (.ref a), some (.int c), some (.ref S), some (.ref B), y4, some (.ref Kp), some (.ref X), y7, y8, none] ∧ Mod X Hb H' ∧ Nd H' X ks' ∧ alongN ks bs = alongN ks' (bs.drop i) ∧ ks'.length ≤ 2 + 100 * i) ⟨none, none, ks, rfl, Mod.refl, hX1, rfl, by omega⟩ (fun i σ H' _ h => by obtain ⟨_, _, _, _, m, _⟩ := h; exact sq (m _ _ hBX hB1)) (fun i x σ H4 H5 hi hp' hy => ?_) (fun σ H4 hp' => ?_)
  · obtain ⟨y7, y8, ks', rfl, md, hk', eq, hkl'⟩ := hp'
    obtain ⟨rfl, gx⟩ := hy
    obtain ⟨d, gd, hdx⟩ := hx1.get gx
    have eb := hb d (List.mem_of_getElem? gd)
    have hid : i < bs.length := (List.getElem?_eq_some_iff.mp gd).1
    have edrop : bs.drop i = d :: bs.drop (i + 1) := by
      rw [List.drop_eq_getElem_cons hid]
      rw [List.getElem?_eq_getElem hid] at gd
      cases gd; rfl
    rw [edrop] at eq
    obtain ⟨e1, e2, e3, cs, rfl, hc, hcl⟩ := dBlkOk_inv eb
    have hdx := Dt.keep (B := none) (tp_mod md hX1) _ _ (dBlkOk_noL eb) hdx
    cases hdx with
    | tup ha hxx =>
      rename_i t ys
      obtain ⟨x1, x2, x3, x4, d1, d2, d3, d4, rfl, e, h1, h2, h3, h4⟩ := hxx.four (by rw [hxx.length]; rfl)
      cases e
      walk_at "rds"
      refine ⟨t, _, 3, _, rfl, rfl, ha.sq, atI_nat (j := 3) rfl, ?_⟩
      obtain ⟨t4, zs, rfl, ht4, hzs⟩ : ∃ t4 zs, x4 = .ref t4 ∧ TupAt K H5 t4 zs ∧ DtAll K H5 none zs cs := by
        cases h4 with
        | tup hb hx => exact ⟨_, _, rfl, hb, hx⟩
      refine ⟨t4, rfl, ⟨zs, ht4.sq⟩, ?_⟩
      refine for_it (walk_tup (K := K) (a := t4) (xs := zs)) (Pv := fun j σ H' => ∃ y8 ks2, σ = [some (.ref a), some (.int c), some (.ref S), some (.ref B), y4, some (.ref Kp), some (.ref X), some (.ref t), y8, none] ∧ Mod X H5 H' ∧ Nd H' X ks2 ∧ ndAfter ks' cs = ndAfter ks2 (cs.drop j) ∧ ks2.length ≤ ks'.length + j) ⟨y8, ks', rfl, Mod.refl, hk', rfl, Nat.le_refl _⟩ (fun j σ H' _ h => by obtain ⟨_, _, _, m, _⟩ := h; exact (ht4.tp (tp_mod m hk')).sq) (fun j x σ H6 H7 hj hp' hy => ?_) (fun σ H6 hp' => ?_)
      · obtain ⟨y8, ks2, rfl, md2, hk2, eq2, hkl2⟩ := hp'
        obtain ⟨rfl, gx⟩ := hy
        obtain ⟨d, gd, hdx⟩ := hzs.get gx
        have ec := hc d (List.mem_of_getElem? gd)
        have hjd : j < cs.length := (List.getElem?_eq_some_iff.mp gd).1
        have edrop : cs.drop j = d :: cs.drop (j + 1) := by
          rw [List.drop_eq_getElem_cons hjd]
          rw [List.getElem?_eq_getElem hjd] at gd
          cases gd; rfl
        rw [edrop] at eq2
        obtain ⟨aq, x3, rfl, haq⟩ := Dt.nums ec (Dt.keep (B := none) (tp_mod md2 hk') _ _ (dCmd_noL ec) hdx)
        walk_at "rds"
        refine ⟨aq, _, 1, _, rfl, rfl, haq.sq, atI_nat (j := 1) rfl, ?_⟩
        walk_at "rds"
        refine ⟨aq, _, 0, _, rfl, rfl, haq.sq, atI_nat (j := 0) rfl, ?_⟩
        refine ⟨X, _, rfl, DPut.k (k := Sum.inl (dClient d)) hk2 (by rw [List.length_map]; exact sz1000' (by omega)), ?_⟩
        refine ⟨_, putN ks2 (dClient d) (dNum d), rfl, fun b o n e => by rw [upd_ne n]; exact md2 _ _ n e, ?_, eq2, by have := putN_len ks2 (dClient d) (dNum d); omega⟩
        show upd _ X _ X = _
        rw [upd_same, nd_put]
      · obtain ⟨y8, ks2, rfl, md2, hk2, eq2, hkl2⟩ := hp'
        rw [List.drop_of_length_le (by rw [hzs.length]; exact Nat.le_refl _)] at eq2
        refine ⟨_, _, ks2, rfl, md.trans md2, hk2, ?_, ?_⟩
        · rw [eq]
          show alongN (ndAfter ks' cs) _ = _
          rw [eq2]; rfl
        · have := hzs.length
          omega
  obtain ⟨y7, y8, ks', rfl, md, hk', eq, hkl'⟩ := hp'
  rw [List.drop_of_length_le (by rw [hx1.length]; exact Nat.le_refl _)] at eq
  have eq : alongN ks bs = ks' := eq
  have hS2 := md _ _ hSX hS1
  have hB2 := md _ _ hBX hB1
  have hK2 := md _ _ hKX hK1
  have hx2 : DtAll K H4 none xs bs := DtAll.keep (tp_mod md hX1) _ _ hnl hx1
  have hko := alongN_keys bs ho
  walk_at "rds"
  refine ⟨S, B, ks, xs, bs, rfl, hS2, hB2, hx2, hb, by omega, by omega, fun R H5 hR s5 hR5 => ?_⟩
  walk_at "rds"
  have hX5 : H5 X = some (.dK ((alongN ks bs).map ndK)) := by rw [eq]; exact s5 _ _ hk'
  have hR5 : H5 R = some (.dK ((alongN ks bs).map ndK)) := hR5
  have hS5 := s5 _ _ hS2
  have hK5 := s5 _ _ hK2
  have hB5 := s5 _ _ hB2
  walk_at "isi"
  walk_at "rds"
  refine ⟨R, X, _, _, 1, by decide, rfl, rfl, hR5, hX5, rfl, nd_eq hko, ?_⟩
  walk_at "rds"
  refine ⟨S, Kp, _, _, 1, by decide, rfl, rfl, hS5, hK5, rfl, nd_eq ho, ?_⟩
  walk_at "rds"
  have hal := alongN_len bs ks hb
  refine ⟨R, _, rfl, DPut.k (k := Sum.inl (-99)) hR5 (by rw [List.length_map]; exact sz1000' (by omega)), ?_⟩
  have s6 : Same H4 (upd H5 R (.dK (putK ((alongN ks bs).map ndK) (Sum.inl (-99) : Key) (.int 5)))) := same_mut s5 hR
  walk_at "rds"
  refine ⟨S, B, ks, xs, bs, rfl, s6 _ _ hS2, s6 _ _ hB2, hx2.on s6, hb, by omega, by omega, fun R2 H7 hR2 s7 hR7 => ?_⟩
  walk_at "rds"
  have hX7 : H7 X = some (.dK ((alongN ks bs).map ndK)) := by rw [eq]; exact s7 _ _ (s6 _ _ hk')
  refine ⟨1, by decide, .inr ⟨R2, X, _, _, rfl, rfl, hR7, hX7, rfl, nd_eq hko⟩, ?_⟩
  walk_at "rds"
  refine ⟨1, by decide, .inr ⟨S, Kp, _, _, rfl, rfl, s7 _ _ (s6 _ _ hS2), s7 _ _ (s6 _ _ hK2), rfl, nd_eq ho⟩, ?_⟩
  exact q _
end

theorem fin {P : Program} {w : World} {K : PySem.W.Frag} {mg : Str → Option Value} {fa : Addr} (hfa : mg "law" = some (.ref fa)) (T : Txt K mg) :
    ∃ fd : FuncData, (∀ (s : Shared) (u : Value), BindsTo s fd ⟨[u], []⟩ [("script", u)]) ∧ ∀ base : Heap, K.In base → base.Ns mainGlobals mg → FnOk P w K mg base L2.CX0 4 fa fd ["script"] (spLaw K) := by
  obtain ⟨f, fd, F, hm, b⟩ := T.d_law.ex
  cases hfa.symm.trans hm
  refine ⟨fd, fun s u => ?_, fun base _ _ => ok_law F T⟩
  obtain ⟨oc, od, kV, doc, pm, an, cdv, ct, osl, rfl, l, _⟩ := F.ex
  exact .of_eq rfl

theorem all_mk {K : PySem.W.Frag} {h : Heap} {mg : Str → Option Value} (X : K.In h) (G : h.Ns mainGlobals mg)
    {f_numbers_after : Addr} {od_numbers_after an_numbers_after : Option Addr} {sl_numbers_after : Array (Option Value)} {oc_numbers_after kV_numbers_after dc_numbers_after pm_numbers_after cd_numbers_after ct_numbers_after : Value}
    {f_numbers_along : Addr} {od_numbers_along an_numbers_along : Option Addr} {sl_numbers_along : Array (Option Value)} {oc_numbers_along kV_numbers_along dc_numbers_along pm_numbers_along cd_numbers_along ct_numbers_along : Value}
    {f__law_cell : Addr} {od__law_cell an__law_cell : Option Addr} {sl__law_cell : Array (Option Value)} {oc__law_cell kV__law_cell dc__law_cell pm__law_cell cd__law_cell ct__law_cell : Value}
    {f__law_draws : Addr} {od__law_draws an__law_draws : Option Addr} {sl__law_draws : Array (Option Value)} {oc__law_draws kV__law_draws dc__law_draws pm__law_draws cd__law_draws ct__law_draws : Value}
    {f__law_commands : Addr} {od__law_commands an__law_commands : Option Addr} {sl__law_commands : Array (Option Value)} {oc__law_commands kV__law_commands dc__law_commands pm__law_commands cd__law_commands ct__law_commands : Value}
    {f_law : Addr} {od_law an_law : Option Addr} {sl_law : Array (Option Value)} {oc_law kV_law dc_law pm_law cd_law ct_law : Value}
    (a_numbers_after : PySem.W.nsIn K mainGlobals "numbers_after" = some (some (.ref f_numbers_after)))
    (l_numbers_after : K.lookup f_numbers_after = some ⟨oc_numbers_after, od_numbers_after, .func (PySem.W.fnOf "numbers_after" "numbers_after" (defArgs s_numbers_after) (defBody s_numbers_after) (defScope s_numbers_after) .none kV_numbers_after dc_numbers_after pm_numbers_after an_numbers_after cd_numbers_after ct_numbers_after), sl_numbers_after⟩)
    (e_numbers_after : PySem.W.codeIn K cd_numbers_after "numbers_after" = true)
    (k_numbers_after : PySem.W.keepIn K (.ref f_numbers_after) = true)
    (a_numbers_along : PySem.W.nsIn K mainGlobals "numbers_along" = some (some (.ref f_numbers_along)))
    (l_numbers_along : K.lookup f_numbers_along = some ⟨oc_numbers_along, od_numbers_along, .func (PySem.W.fnOf "numbers_along" "numbers_along" (defArgs s_numbers_along) (defBody s_numbers_along) (defScope s_numbers_along) .none kV_numbers_along dc_numbers_along pm_numbers_along an_numbers_along cd_numbers_along ct_numbers_along), sl_numbers_along⟩)
    (e_numbers_along : PySem.W.codeIn K cd_numbers_along "numbers_along" = true)
    (k_numbers_along : PySem.W.keepIn K (.ref f_numbers_along) = true)
    (a__law_cell : PySem.W.nsIn K mainGlobals "_law_cell" = some (some (.ref f__law_cell)))
    (l__law_cell : K.lookup f__law_cell = some ⟨oc__law_cell, od__law_cell, .func (PySem.W.fnOf "_law_cell" "_law_cell" (defArgs s__law_cell) (defBody s__law_cell) (defScope s__law_cell) .none kV__law_cell dc__law_cell pm__law_cell an__law_cell cd__law_cell ct__law_cell), sl__law_cell⟩)
    (e__law_cell : PySem.W.codeIn K cd__law_cell "_law_cell" = true)
    (k__law_cell : PySem.W.keepIn K (.ref f__law_cell) = true)
    (a__law_draws : PySem.W.nsIn K mainGlobals "_law_draws" = some (some (.ref f__law_draws)))
    (l__law_draws : K.lookup f__law_draws = some ⟨oc__law_draws, od__law_draws, .func (PySem.W.fnOf "_law_draws" "_law_draws" (defArgs s__law_draws) (defBody s__law_draws) (defScope s__law_draws) .none kV__law_draws dc__law_draws pm__law_draws an__law_draws cd__law_draws ct__law_draws), sl__law_draws⟩)
    (e__law_draws : PySem.W.codeIn K cd__law_draws "_law_draws" = true)
    (k__law_draws : PySem.W.keepIn K (.ref f__law_draws) = true)
    (a__law_commands : PySem.W.nsIn K mainGlobals "_law_commands" = some (some (.ref f__law_commands)))
    (l__law_commands : K.lookup f__law_commands = some ⟨oc__law_commands, od__law_commands, .func (PySem.W.fnOf "_law_commands" "_law_commands" (defArgs s__law_commands) (defBody s__law_commands) (defScope s__law_commands) .none kV__law_commands dc__law_commands pm__law_commands an__law_commands cd__law_commands ct__law_commands), sl__law_commands⟩)
    (e__law_commands : PySem.W.codeIn K cd__law_commands "_law_commands" = true)
    (k__law_commands : PySem.W.keepIn K (.ref f__law_commands) = true)
    (a_law : PySem.W.nsIn K mainGlobals "law" = some (some (.ref f_law)))
    (l_law : K.lookup f_law = some ⟨oc_law, od_law, .func (PySem.W.fnOf "law" "law" (defArgs s_law) (defBody s_law) (defScope s_law) .none kV_law dc_law pm_law an_law cd_law ct_law), sl_law⟩)
    (e_law : PySem.W.codeIn K cd_law "law" = true)
    (k_law : PySem.W.keepIn K (.ref f_law) = true)
    (z_abs : PySem.W.nsIn K mainGlobals "abs" = some none)
    (z_dict : PySem.W.nsIn K mainGlobals "dict" = some none)
    (z_int : PySem.W.nsIn K mainGlobals "int" = some none)
    (z_isinstance : PySem.W.nsIn K mainGlobals "isinstance" = some none)
    (z_len : PySem.W.nsIn K mainGlobals "len" = some none)
    (z_range : PySem.W.nsIn K mainGlobals "range" = some none)
    (z_tuple : PySem.W.nsIn K mainGlobals "tuple" = some none) : Txt K mg :=
  { d_numbers_after := ⟨_, _, (fun_mk l_numbers_after e_numbers_after k_numbers_after), PySem.W.mg_of X G a_numbers_after, ((fun_mk (st := s_numbers_after) l_numbers_after e_numbers_after k_numbers_after).binds (ps := ["last", "commands"]) fun _ _ _ _ _ _ us hl => match us, hl with | [_, _], _ => rfl)⟩,
    d_numbers_along := ⟨_, _, (fun_mk l_numbers_along e_numbers_along k_numbers_along), PySem.W.mg_of X G a_numbers_along, ((fun_mk (st := s_numbers_along) l_numbers_along e_numbers_along k_numbers_along).binds (ps := ["numbers", "path"]) fun _ _ _ _ _ _ us hl => match us, hl with | [_, _], _ => rfl)⟩,
    d__law_cell := ⟨_, _, (fun_mk l__law_cell e__law_cell k__law_cell), PySem.W.mg_of X G a__law_cell, ((fun_mk (st := s__law_cell) l__law_cell e__law_cell k__law_cell).binds (ps := ["script", "k"]) fun _ _ _ _ _ _ us hl => match us, hl with | [_, _], _ => rfl)⟩,
    d__law_draws := ⟨_, _, (fun_mk l__law_draws e__law_draws k__law_draws), PySem.W.mg_of X G a__law_draws, ((fun_mk (st := s__law_draws) l__law_draws e__law_draws k__law_draws).binds (ps := ["script", "start", "most"]) fun _ _ _ _ _ _ us hl => match us, hl with | [_, _, _], _ => rfl)⟩,
    d__law_commands := ⟨_, _, (fun_mk l__law_commands e__law_commands k__law_commands), PySem.W.mg_of X G a__law_commands, ((fun_mk (st := s__law_commands) l__law_commands e__law_commands k__law_commands).binds (ps := ["draw"]) fun _ _ _ _ _ _ us hl => match us, hl with | [_], _ => rfl)⟩,
    d_law := ⟨_, _, (fun_mk l_law e_law k_law), PySem.W.mg_of X G a_law, ((fun_mk (st := s_law) l_law e_law k_law).binds (ps := ["script"]) fun _ _ _ _ _ _ us hl => match us, hl with | [_], _ => rfl)⟩,
    z_abs := PySem.W.mg_none_of X G z_abs,
    z_dict := PySem.W.mg_none_of X G z_dict,
    z_int := PySem.W.mg_none_of X G z_int,
    z_isinstance := PySem.W.mg_none_of X G z_isinstance,
    z_len := PySem.W.mg_none_of X G z_len,
    z_range := PySem.W.mg_none_of X G z_range,
    z_tuple := PySem.W.mg_none_of X G z_tuple }
end Law
open PySem PySem.W PyProof.Rows
set_option maxRecDepth 100000 in
set_option maxHeartbeats 0 in
theorem PySem.Challenge.cw_oathledger_k35_numbers_along_a_path_holds : PySem.Challenge.rw_oathledger_k35_numbers_along_a_path.Holds := by
  w_on; o_law; k_head; (case hw => w_witness2)
  k_fill
  refine L2.walk_of (l := PySem.Challenge.rw_oathledger_k35_numbers_along_a_path) (n := 63) (k := 4) (x := "script") (CX := fun _ => L2.CX0) (sp := fun w => Law.spLaw _) rfl (by decide) rfl ⟨rfl, by decide, by decide⟩ (fun w h Y => PySem.W.kIn_of Y) ?F (fun _ _ a ns hl _ hS => ⟨a, ns, rfl, hS, hl, fun _ => rfl⟩) (fun _ _ _ _ _ h => h)
  case F =>
    intro w mg fa h KX G hmg
    refine' Law.fin hmg (Law.all_mk KX G ?a_numbers_after ?l_numbers_after ?e_numbers_after ?k_numbers_after ?a_numbers_along ?l_numbers_along ?e_numbers_along ?k_numbers_along ?a__law_cell ?l__law_cell ?e__law_cell ?k__law_cell ?a__law_draws ?l__law_draws ?e__law_draws ?k__law_draws ?a__law_commands ?l__law_commands ?e__law_commands ?k__law_commands ?a_law ?l_law ?e_law ?k_law ?z_abs ?z_dict ?z_int ?z_isinstance ?z_len ?z_range ?z_tuple)
    (case a_numbers_after => k_is)
    (case l_numbers_after => k_is)
    (case e_numbers_after => k_is)
    (case k_numbers_after => k_is)
    (case a_numbers_along => k_is)
    (case l_numbers_along => k_is)
    (case e_numbers_along => k_is)
    (case k_numbers_along => k_is)
    (case a__law_cell => k_is)
    (case l__law_cell => k_is)
    (case e__law_cell => k_is)
    (case k__law_cell => k_is)
    (case a__law_draws => k_is)
    (case l__law_draws => k_is)
    (case e__law_draws => k_is)
    (case k__law_draws => k_is)
    (case a__law_commands => k_is)
    (case l__law_commands => k_is)
    (case e__law_commands => k_is)
    (case k__law_commands => k_is)
    (case a_law => k_is)
    (case l_law => k_is)
    (case e_law => k_is)
    (case k_law => k_is)
    (case z_abs => k_is)
    (case z_dict => k_is)
    (case z_int => k_is)
    (case z_isinstance => k_is)
    (case z_len => k_is)
    (case z_range => k_is)
    (case z_tuple => k_is)

