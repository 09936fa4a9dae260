/-
  What compareEntries and Place return of two entries, and that the order of entries is one; conditions: the entries' lists lie in memory.
-/
import Derived.Test.YtmeeombadkgneaaGreatZVa9
import Derived.Test.YtmeeombadkgneaaGreatZOrder
namespace Go.Proofs.YtmeeombadkgneaaGreat
open Go.RowKit Go.Shelf

attribute [local go_sem] Oper.semAt_some
/-- The order of two entries. -/
def cmpE (e f : EA) : Int := orV (orV (cmpS e.nm f.nm) (cmpI e.val.v.so f.val.v.so)) (cmpVs (vls e.args) (vls f.args))
set_option maxRecDepth 100000 in
set_option maxHeartbeats 4000000 in
theorem compareE_any (x y : EA) (w : World) (hx : LiesE w x) (hy : LiesE w y) : Calls Tryz.prog 34 #[ev x, ev y] w fun e w' => e = .returned (.int .i64 (cmpE x y)) ∧ Below w.heap.size w w' := by
  have HB : Below w.heap.size w ((w.alloc (boxE x 29)).alloc (boxE y 29)) := ((Below.refl _ _).alloc (Nat.le_refl _) _).alloc (by simp) _
  have X : SevenE ((w.alloc (boxE x 29)).alloc (boxE y 29)) w.heap.size 0 x := (sevenE_new w x 29).later ((Below.refl _ _).alloc (Nat.le_refl _) _)
  have Y : SevenE ((w.alloc (boxE x 29)).alloc (boxE y 29)) (w.heap.size + 1) 0 y := by have := sevenE_new (w.alloc (boxE x 29)) y 29; simpa only [World.size_alloc] using this
  have hv := Lib.hid (show cmpE x y = orV (orV (cmpS x.nm y.nm) (cmpI x.val.v.so y.val.v.so)) (cmpVs (vls x.args) (vls y.args)) from rfl)
  have HX := Lib.hid hx
  have HY := Lib.hid hy
  have e0 := X.c0
  have e2 := X.c2
  have g0 := Y.c0
  have g2 := Y.c2
  clear hx hy
  simp only [Nat.zero_add] at e0 e2 g0 g2
  go_enter Tryz.func34, Tryz.ntmps34
  go_wp2_with fail
  generalize (w.alloc (boxE x 29)).alloc (boxE y 29) = W at *
  go_still_tail 12, (by kernel_rfl)
  still_call ((cmpStr_any _ _ _).mono fun _ _ h => ⟨h.1, h.2.symm⟩)
  repeat still_step
  still_call ((cmpInt_any _ _ _).mono fun _ _ h => ⟨h.1, h.2.symm⟩)
  refine wpStill_nil ?_
  change wpList _ _ _ _ _ W.drew
  clear e0 e2 g0 g2
  have hd : Below W.heap.size W W.drew := ⟨rfl, rfl, rfl, Nat.le_refl _, fun _ _ => rfl⟩
  have HBd := Lib.hid (HB.drew)
  have KX := Lib.hid (fun (W' : World) (h : Below W.drew.heap.size W.drew W') => (X.later hd).later h)
  have KY := Lib.hid (fun (W' : World) (h : Below W.drew.heap.size W.drew W') => (Y.later hd).later h)
  clear hd HB X Y
  generalize W.drew = W2 at *
  go_wp2_with fail
  refine (or_any (cmpS x.nm y.nm) (cmpI x.val.v.so y.val.v.so) _ _ _ (by simp [go_sem]) (by simp [go_sem])).mono ?_
  rintro e w1 ⟨rfl, hw⟩
  have B1 : Below W2.heap.size W2 w1 := by rw [← hw]; exact (Below.refl _ _).alloc (Nat.le_refl _) _
  clear hw
  obtain ⟨x0, x1, x2, x3, x4, x5, x6⟩ := KX.out _ B1
  obtain ⟨y0, y1, y2, y3, y4, y5, y6⟩ := KY.out _ B1
  simp only [Nat.zero_add] at x0 x1 x2 x3 x4 x5 x6 y0 y1 y2 y3 y4 y5 y6
  have HB1 := Lib.hid (HBd.out.trans (B1.mono HBd.out.size))
  clear B1 KX KY HBd
  by_cases h0 : orV (cmpS x.nm y.nm) (cmpI x.val.v.so y.val.v.so) = 0
  case neg =>
    have h0' : (orV (cmpS x.nm y.nm) (cmpI x.val.v.so y.val.v.so) != 0) = true := by simp [h0]
    have Hr := Lib.hid (show cmpE x y = orV (cmpS x.nm y.nm) (cmpI x.val.v.so y.val.v.so) by rw [hv.out]; exact if_pos h0)
    clear h0 hv
    go_wp2_with fail
    go_ret
    exact ⟨by rw [Hr.out]; rfl, HB1.out⟩
  have h0' : (orV (cmpS x.nm y.nm) (cmpI x.val.v.so y.val.v.so) != 0) = false := by simp [h0]
  have Hr := Lib.hid (show cmpE x y = cmpVs (vls x.args) (vls y.args) by rw [hv.out]; exact if_neg (by simpa using h0))
  clear h0 hv
  go_wp2_with fail
  refine (cmpArgs_any x.args y.args x.A y.A x.c y.c _ (HX.out.args.later HB1.out) (HY.out.args.later HB1.out)).mono ?_
  rintro e w2 ⟨rfl, b2⟩
  have B2 := Lib.hid (HB1.out.trans (b2.mono HB1.out.size))
  clear b2 x0 x1 x2 x3 x4 x5 x6 y0 y1 y2 y3 y4 y5 y6
  go_wp2_with fail
  go_ret
  exact ⟨by rw [Hr.out]; rfl, B2.out⟩
/-- Are two entries of one place? -/
def placeB (e f : EA) : Bool := (e.nm.toList == f.nm.toList) && (decide (e.val.v.so = f.val.v.so) && vlsB e.args f.args)
set_option maxRecDepth 100000 in
set_option maxHeartbeats 4000000 in
theorem place_any (x y : EA) (w : World) (hx : LiesE w x) (hy : LiesE w y) : Calls Tryz.prog 38 #[ev x, ev y] w fun e w' => e = .returned (.bool (placeB x y)) ∧ Below w.heap.size w w' := by
  have HB : Below w.heap.size w ((w.alloc (boxE x 29)).alloc (boxE y 29)) := ((Below.refl _ _).alloc (Nat.le_refl _) _).alloc (by simp) _
  have X : SevenE ((w.alloc (boxE x 29)).alloc (boxE y 29)) w.heap.size 0 x := (sevenE_new w x 29).later ((Below.refl _ _).alloc (Nat.le_refl _) _)
  have Y : SevenE ((w.alloc (boxE x 29)).alloc (boxE y 29)) (w.heap.size + 1) 0 y := by have := sevenE_new (w.alloc (boxE x 29)) y 29; simpa only [World.size_alloc] using this
  have hv := Lib.hid (show placeB x y = ((x.nm.toList == y.nm.toList) && (decide (x.val.v.so = y.val.v.so) && vlsB x.args y.args)) from rfl)
  obtain ⟨W, hW⟩ : ∃ W, (w.alloc (boxE x 29)).alloc (boxE y 29) = W := ⟨_, rfl⟩
  rw [hW] at HB X Y
  have HW := Lib.hid hW
  have HX := Lib.hid (hx.later HB)
  have HY := Lib.hid (hy.later HB)
  have HB := Lib.hid HB
  obtain ⟨x0, x1, x2, x3, x4, x5, x6⟩ := X
  obtain ⟨y0, y1, y2, y3, y4, y5, y6⟩ := Y
  simp only [Nat.zero_add] at x0 x1 x2 x3 x4 x5 x6 y0 y1 y2 y3 y4 y5 y6
  clear hx hy hW
  cases h0 : x.nm.toList == y.nm.toList
  case false =>
    have Hr := Lib.hid (show placeB x y = false by rw [hv.out, h0]; rfl)
    clear hv
    go_enter Tryz.func38, Tryz.ntmps38
    go_wp2_with fail
    go_ret
    exact ⟨by rw [Hr.out]; rfl, by rw [HW.out]; exact HB.out⟩
  by_cases h1 : x.val.v.so = y.val.v.so
  case neg =>
    have d1 : (x.val.v.so == y.val.v.so) = false := by simp [h1]
    have Hr := Lib.hid (show placeB x y = false by rw [hv.out, h0, decide_eq_false h1]; rfl)
    clear hv h1
    go_enter Tryz.func38, Tryz.ntmps38
    go_wp2_with fail
    go_ret
    exact ⟨by rw [Hr.out]; rfl, by rw [HW.out]; exact HB.out⟩
  have d1 : (x.val.v.so == y.val.v.so) = true := by simp [h1]
  have Hr := Lib.hid (show placeB x y = vlsB x.args y.args by rw [hv.out, h0, decide_eq_true h1]; rfl)
  clear hv h1
  go_enter Tryz.func38, Tryz.ntmps38
  go_wp2_with fail
  rw [HW.out]
  refine (sameArgs_any x.args y.args x.A y.A x.c y.c _ HX.out.args HY.out.args).mono ?_
  rintro e w2 ⟨rfl, b2⟩
  have B2 := Lib.hid (HB.out.trans (b2.mono HB.out.size))
  clear b2 x0 x1 x2 x3 x4 x5 x6 y0 y1 y2 y3 y4 y5 y6 h0 d1
  cases hc : vlsB x.args y.args
  case false =>
    have Hr := Lib.hid (Hr.out.trans hc)
    clear hc
    go_wp2_with fail
    go_ret
    exact ⟨by rw [Hr.out]; rfl, B2.out⟩
  case true =>
    have Hr := Lib.hid (Hr.out.trans hc)
    clear hc
    go_wp2_with fail
    go_ret
    exact ⟨by rw [Hr.out]; rfl, B2.out⟩

/-- Laws of an order by -1, 0 and 1. -/
structure Laws {α : Type} (c : α → α → Int) : Prop where
  neg : ∀ a b, c b a = -c a b
  r1 : ∀ a b, R1 (c a b)
  tri : ∀ a b d, Tri (c a b) (c b d) (c a d)
theorem laws_I : Laws cmpI := ⟨cmpI_neg, cmpI_r1, cmpI_tri⟩
theorem laws_S : Laws cmpS := ⟨fun a b => by rw [cmpS_eq, cmpS_eq]; exact cmpB_neg _ _, fun a b => by rw [cmpS_eq]; exact cmpB_r1 _ _, fun a b d => by rw [cmpS_eq, cmpS_eq, cmpS_eq]; exact cmpB_tri _ _ _⟩
theorem Laws.on {α β : Type} {c : α → α → Int} (h : Laws c) (f : β → α) : Laws fun a b => c (f a) (f b) := ⟨fun _ _ => h.neg _ _, fun _ _ => h.r1 _ _, fun _ _ _ => h.tri _ _ _⟩
theorem Laws.lex {α : Type} {c d : α → α → Int} (h : Laws c) (h' : Laws d) : Laws fun a b => lexI (c a b) (d a b) :=
  ⟨fun a b => by rw [h.neg a b, h'.neg a b, lexI_neg], fun a b => lexI_r1 (h.r1 _ _) (h'.r1 _ _), fun a b e => lexI_tri (h.tri _ _ _) fun _ _ => h'.tri _ _ _⟩
/-- Lists, as the words that slices.Compare gives. -/
def cmpOf {α : Type} (c : α → α → Int) : List α → List α → Int
  | [], [] => 0
  | [], _ :: _ => -1
  | _ :: _, [] => 1
  | x :: l, y :: m => lexI (c x y) (cmpOf c l m)
theorem cmpOf_neg {α : Type} {c : α → α → Int} (h : Laws c) : ∀ l m, cmpOf c m l = -cmpOf c l m
  | [], [] => rfl
  | [], _ :: _ => rfl
  | _ :: _, [] => rfl
  | x :: l, y :: m => by rw [cmpOf, cmpOf, h.neg x y, cmpOf_neg h l m, lexI_neg]
theorem cmpOf_r1 {α : Type} {c : α → α → Int} (h : Laws c) : ∀ l m, R1 (cmpOf c l m)
  | [], [] => by unfold R1 cmpOf; omega
  | [], _ :: _ => by unfold R1 cmpOf; omega
  | _ :: _, [] => by unfold R1 cmpOf; omega
  | x :: l, y :: m => lexI_r1 (h.r1 _ _) (cmpOf_r1 h l m)
theorem cmpOf_tri {α : Type} {c : α → α → Int} (h : Laws c) : ∀ l m n, Tri (cmpOf c l m) (cmpOf c m n) (cmpOf c l n)
  | [], [], [] => by unfold Tri cmpOf; omega
  | [], [], _ :: _ => by unfold Tri cmpOf; omega
  | [], _ :: _, [] => by unfold Tri cmpOf; omega
  | [], _ :: _, _ :: _ => by intro _ _; exact ⟨by unfold cmpOf; omega, .inl (by unfold cmpOf; omega)⟩
  | _ :: _, [], [] => by unfold Tri cmpOf; omega
  | _ :: _, [], _ :: _ => by unfold Tri; intro h1; unfold cmpOf at h1; omega
  | _ :: _, _ :: _, [] => by unfold Tri; intro _ h1; unfold cmpOf at h1; omega
  | x :: l, y :: m, z :: n => lexI_tri (h.tri _ _ _) fun _ _ => cmpOf_tri h l m n
theorem laws_of {α : Type} {c : α → α → Int} (h : Laws c) : Laws (cmpOf c) := ⟨cmpOf_neg h, cmpOf_r1 h, cmpOf_tri h⟩
theorem cmpL_of : ∀ l m, cmpL l m = cmpOf cmpI l m
  | [], [] => rfl
  | [], _ :: _ => rfl
  | _ :: _, [] => rfl
  | x :: l, y :: m => by
    rw [cmpL, cmpOf, lexI, cmpL_of l m]
    by_cases h : cmpI x y = 0 <;> simp [h]
theorem cmpV_lex (v u : Vl) : cmpV v u = lexI (lexI (cmpI v.so u.so) (cmpI v.nu u.nu)) (lexI (cmpOf cmpI v.st u.st) (lexI (cmpOf cmpI v.ix u.ix) (cmpOf cmpI v.xs u.xs))) := by
  rw [← cmpL_of, ← cmpL_of, ← cmpL_of]
  show cmpV v u = lexI (orV (cmpI v.so u.so) (cmpI v.nu u.nu)) _
  unfold cmpV lexI
  by_cases h : orV (cmpI v.so u.so) (cmpI v.nu u.nu) = 0
  · simp only [h, ne_eq, not_true, if_false, if_true]
    by_cases h2 : cmpL v.st u.st = 0
    · simp only [h2, not_true, if_false, if_true]
      by_cases h3 : cmpL v.ix u.ix = 0 <;> simp [h3]
    · simp [h2]
  · simp [h]
theorem laws_V : Laws cmpV := by
  have : cmpV = fun v u => lexI (lexI (cmpI v.so u.so) (cmpI v.nu u.nu)) (lexI (cmpOf cmpI v.st u.st) (lexI (cmpOf cmpI v.ix u.ix) (cmpOf cmpI v.xs u.xs))) := by funext v u; exact cmpV_lex v u
  rw [this]
  exact ((laws_I.on Vl.so).lex (laws_I.on Vl.nu)).lex (((laws_of laws_I).on Vl.st).lex (((laws_of laws_I).on Vl.ix).lex ((laws_of laws_I).on Vl.xs)))
theorem cmpVs_of : ∀ l m, cmpVs l m = cmpOf cmpV l m
  | [], [] => rfl
  | [], _ :: _ => rfl
  | _ :: _, [] => rfl
  | x :: l, y :: m => by
    rw [cmpVs, cmpOf, lexI, cmpVs_of l m]
    by_cases h : cmpV x y = 0 <;> simp [h]
theorem laws_E : Laws cmpE := by
  have : cmpE = fun e f => lexI (lexI (cmpS e.nm f.nm) (cmpI e.val.v.so f.val.v.so)) (cmpOf cmpV (vls e.args) (vls f.args)) := by
    funext e f
    rw [← cmpVs_of]
    rfl
  rw [this]
  exact ((laws_S.on EA.nm).lex (laws_I.on fun e : EA => e.val.v.so)).lex ((laws_of laws_V).on fun e : EA => vls e.args)
theorem cmpS_zero {a b : ByteArray} : cmpS a b = 0 ↔ a.toList = b.toList := by
  rw [cmpS_eq]
  exact ⟨cmpB_zero, fun h => by rw [h]; exact cmpB_self _⟩
theorem lexI_zero {x y : Int} : lexI x y = 0 ↔ x = 0 ∧ y = 0 := by unfold lexI; split <;> omega
/-- Two entries are of one place where the order says 0. -/
theorem place_eq (e f : EA) : (cmpE e f == 0) = placeB e f := by
  have : cmpE e f = 0 ↔ placeB e f = true := by
    show lexI (lexI _ _) _ = 0 ↔ _
    rw [lexI_zero, lexI_zero, cmpS_zero, cmpI_zero, cmpVs_zero]
    unfold placeB
    rw [Bool.and_eq_true, Bool.and_eq_true, beq_iff_eq, decide_eq_true_iff, vlsB_iff]
    constructor
    · rintro ⟨⟨a, b⟩, c⟩; exact ⟨a, b, c⟩
    · rintro ⟨a, b, c⟩; exact ⟨⟨a, b⟩, c⟩
  cases h : placeB e f with
  | true => simpa using this.2 h
  | false =>
    rw [beq_eq_false_iff_ne]
    intro h2
    rw [this.1 h2] at h
    cases h
end Go.Proofs.YtmeeombadkgneaaGreat
