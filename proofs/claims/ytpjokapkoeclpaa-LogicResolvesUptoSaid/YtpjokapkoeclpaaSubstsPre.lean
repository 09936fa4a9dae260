/-
  What the law LogicSubsts returns: true; conditions: the trees and the names lie in memory, and none of the lists is too long to be made.
-/
import Derived.Test.YtpjokapkoeclpaaSubst1
import Derived.Test.YtpjokapkoeclpaaChecksLaw
namespace Go.Proofs.Ytpjokapkoeclpaa
open Go.RowKit Go.Shelf

attribute [local go_sem] Oper.semAt_some
theorem subN_id (ws : List Nd) (t : Nd) : subN (lookF [] ws) t = t := by
  induction t using Nd.ind with
  | h t ih =>
  rw [subN_build (fun _ => rfl), show t.ks.map (subN (lookF [] ws)) = t.ks from ?_, Nd.eta]
  refine List.ext_getElem (by simp) fun i h1 h2 => ?_
  rw [List.getElem_map]
  exact ih i h2

/-- A list that lies in memory, with where its kids lie. -/
theorem Lies.rows {w : World} {A : Option Addr} {cap : Nat} {ks : List Nd} (h : Lies w A cap ks) : ∃ l : List NdA, l.map (·.1) = ks ∧ (∀ x ∈ l, Lies w x.2.1 x.2.2 x.1.ks ∧ Fine x.1) ∧
    (0 < ks.length → ∃ b o, A = some ⟨b, o, none⟩ ∧ ∀ j u, (flatN l)[j]? = some u → w.cell? ((⟨b, o, none⟩ : Addr).add j) = some u) := by
  cases h with
  | mk _ _ _ hcap b o A' C' hA h5 hk hf =>
  refine ⟨ks.mapIdx fun i x => (x, A' i, C' i), ?_, ?_, ?_⟩
  · refine List.ext_getElem (by simp) fun i h1 h2 => by simp
  · intro x hx
    obtain ⟨i, hi, rfl⟩ := List.getElem_of_mem hx
    rw [List.length_mapIdx] at hi
    rw [List.getElem_mapIdx]
    exact ⟨hk i hi, hf i hi⟩
  · intro h0
    refine ⟨b, o, hA h0, fun j u hj => ?_⟩
    have hjl := (List.getElem?_eq_some_iff.1 hj).1
    rw [flatN_len, List.length_mapIdx] at hjl
    have hi : j / 5 < ks.length := by omega
    have e := flatN_at (ks.mapIdx fun i x => ((x, A' i, C' i) : NdA)) (j / 5) (by rw [List.length_mapIdx]; exact hi) (j % 5) (by omega)
    rw [show j / 5 * 5 + j % 5 = j by omega, hj, List.getElem_mapIdx] at e
    have p := h5 (j / 5) hi
    rw [show (⟨b, o, none⟩ : Addr).add j = ⟨b, o + (j / 5 * 5 + j % 5), none⟩ by rw [show j / 5 * 5 + j % 5 = j by omega]; unfold Addr.add; split <;> simp_all]
    have h5' : j % 5 = 0 ∨ j % 5 = 1 ∨ j % 5 = 2 ∨ j % 5 = 3 ∨ j % 5 = 4 := by omega
    rcases h5' with h | h | h | h | h <;> rw [h] at e ⊢ <;> simp only [cells5] at e <;> rw [e] <;> rw [← Nat.add_assoc]
    · exact p.c0
    · exact p.c1
    · exact p.c2
    · exact p.c3
    · exact p.c4

theorem cells5_one (x : NdA) : ∀ u ∈ cells5 x, u.oneCell' = true := by simp [cells5, Value.oneCell']
theorem flatN_one (l : List NdA) : ∀ u ∈ flatN l, u.oneCell' = true := by
  intro u hu
  obtain ⟨x, _, h⟩ := List.mem_flatMap.1 hu
  exact cells5_one x u h
theorem flatN_cons (x : NdA) (l : List NdA) : flatN (x :: l) = cells5 x ++ flatN l := rfl

/-- A row of nodes whose kids lie in memory. -/
theorem lies_of_row {w : World} {base : Nat} {v : Value} {l : List NdA} (h : w.ownsRow base 24 5 v l.length (flatN l)) (hl : ∀ x ∈ l, Lies w x.2.1 x.2.2 x.1.ks ∧ Fine x.1) (hm : l.length ≤ maxLen) :
    ∃ A cap, v = .slice A (l.map (·.1)).length cap ∧ Lies w A cap (l.map (·.1)) := by
  rcases h.2 with ⟨hv, hn⟩ | ⟨g, cap, cur, hv, h1, h2, h3, h4, h5, h6⟩
  · have hx : l = [] := List.length_eq_zero_iff.1 hn
    subst hx
    exact ⟨none, 0, hv, .mk none 0 [] (by simp) 0 0 (fun _ => none) (fun _ => 0) (fun h => by simp at h) (fun i h => by simp at h) (fun i h => by simp at h) (fun i h => by simp at h)⟩
  · refine ⟨some ⟨g, 0, none⟩, cap, by rw [hv, List.length_map], .mk _ _ _ (by simpa using hm) g 0 (fun i => ((l[i]?).map (·.2.1)).getD none) (fun i => ((l[i]?).map (·.2.2)).getD 0) (fun _ => rfl) (fun i hi => ?_) (fun i hi => ?_) (fun i hi => ?_)⟩
    all_goals have hi' : i < l.length := by simpa using hi
    · have hc : ∀ j, j < 5 → w.cell? ⟨g, 0 + i * 5 + j, none⟩ = (cells5 l[i])[j]? := fun j hj => by
        have := flatN_at l i hi' j hj
        rw [← h6, List.getElem?_take_of_lt (by omega)] at this
        rw [← this]
        simp [World.cell?, h2]
      simp only [List.getElem_map, List.getElem?_eq_getElem hi', Option.map_some, Option.getD_some]
      exact ⟨hc 0 (by omega), hc 1 (by omega), hc 2 (by omega), hc 3 (by omega), hc 4 (by omega)⟩
    · simp only [List.getElem_map, List.getElem?_eq_getElem hi', Option.map_some, Option.getD_some]
      exact (hl l[i] (List.getElem_mem hi')).1
    · simp only [List.getElem_map]
      exact (hl l[i] (List.getElem_mem hi')).2

section
variable {P : Program} {ops : Array Oper} {Q : Exit → Act → World → Prop} {a : Act} {w : World} {rest : List Oper} {o : Oper}
theorem wpList_wanted (hg : Region.wanted o (yielded ops a.tmps) = true)
    (h : ∀ K : Act → World → Prop, (∀ a w, wpList P ops Q rest a w → K a w) → o.wp P a w K Q) : wpList P ops Q (o :: rest) a w :=
  wpList_step fun K hK => by rw [if_pos hg]; exact h K hK
/-- wpList_append_own_at, for an operation whose guard lets it be done. -/
theorem wpList_append_wanted (hgd : Region.wanted o (yielded ops a.tmps) = true) (s x : Operand) (t : TypeId)
    (ho : o.op = .call { callee := .builtin .append, args := #[s, x], argTypes := #[t, t] })
    (base : Nat) (e : TypeId) (i : TypeInfo) (z : Value) (size bytes : Nat) (ht : P.underlying t = some (.slice e)) (hi : P.info? e = some i) (hz : i.zero = some z)
    (hsize : i.size = size) (hby : i.bytes = bytes) (hzs : z.cells.size = size) (hsz : 0 < size)
    (v : Value) (n : Nat) (xs : List Value) (hs : a.eval s = v) (hown : w.ownsRow base e size v n xs)
    (ad : Addr) (m c : Nat) (news : List Value) (hx : a.eval x = .slice (some ad) m c) (hl : news.length = m * size) (hnews : ∀ j u, news[j]? = some u → w.cell? (ad.add j) = some u) (h1 : ∀ u ∈ news, u.oneCell' = true)
    (h63 : n + m ≤ maxLen) (hbytes : (n + m) * bytes ≤ 140737488355328) (hbase : base ≤ w.heap.size)
    (h : ∀ v' w', w'.ownsRow base e size v' (n + m) (xs ++ news) → w.grownBy w' v.ownBlock → (v' = .slice none 0 0 ↔ v = .slice none 0 0 ∧ m = 0) → (v'.ownBlock = v.ownBlock ∨ v'.ownBlock = some w.heap.size) → wpList P ops Q rest (a.put o.dst v') w') :
    wpList P ops Q (o :: rest) a w := by
  refine wpList_wanted hgd fun K hK => ?_
  obtain ⟨v', w', hr, h2, h3, h4, h5⟩ := run_append_own_at (P := P) w base t o.type e i z size bytes ht hi hz hsize hby hzs hsz v n xs hown ad m c news hl hnews h1 h63 hbytes hbase
  unfold Oper.wp execOp
  simp only [ho, resolve, invoke, builtin, Sem.run_bind, Sem.run_pure, Result.andThen_ok, List.map_toArray, List.map_cons, List.map_nil, hs, hx, hr]
  exact hK _ _ (h v' w' h2 h3 h4 h5)
end

theorem run_append_empty {P : Program} (w : World) (t ty e : TypeId) (i : TypeInfo) (ht : P.underlying t = some (.slice e)) (hi : P.info? e = some i) (g : Nat) (n cap : Nat) (hn : n ≤ cap) (A : Option Addr) (c : Nat) :
    (Builtin.append_ #[t, t] ty #[.slice (some ⟨g, 0, none⟩) n cap, .slice A 0 c]).run P w = .ok (.slice (some ⟨g, 0, none⟩) n cap) w := by
  cases A <;> simp [Builtin.append_, run_underlying ht, sizeOf, typeInfo, hi, Builtin.lenOf, Builtin.firstCells, loadCells, loadCellsFrom, storeCells, hn]

theorem ownsRow_one (w : World) (x : NdA) : (w.alloc (.cells #[.int .i64 x.1.op, .int .i64 x.1.so, .string x.1.nm, .int .i64 x.1.nu, .slice x.2.1 x.1.ks.length x.2.2] 24)).ownsRow w.heap.size 24 5 (.slice (some ⟨w.heap.size, 0, none⟩) 1 1) 1 (cells5 x) :=
  ⟨rfl, .inr ⟨_, 1, _, rfl, Nat.le_refl _, heap_alloc_new w _, Nat.le_refl _, by decide, rfl, rfl⟩⟩

section
variable {ops : Array Oper} {Q : Exit → Act → World → Prop} {a : Act} {w : World} {rest : List Oper} {o : Oper}
/-- A row of one node, and a list of nodes behind it. -/
theorem wpList_append_nodes (hgd : Region.wanted o (yielded ops a.tmps) = true) (s x : Operand) (ho : o.op = .call { callee := .builtin .append, args := #[s, x], argTypes := #[22, 22] })
    (t : Nd) (A : Option Addr) (ca : Nat) (ws : List Nd) (WA : Option Addr) (wcap : Nat) (hA : Lies w A ca t.ks) (hf : Fine t) (hW : Lies w WA wcap ws) (hws : ws.length ≤ 20)
    (hs : a.eval s = .slice (some ⟨w.heap.size, 0, none⟩) 1 1) (hx : a.eval x = .slice WA ws.length wcap)
    (h : ∀ A' cap' w', Lies w' A' cap' (t :: ws) → Below w.heap.size w w' → wpList Try.prog ops Q rest (a.put o.dst (.slice A' (t :: ws).length cap')) w') :
    wpList Try.prog ops Q (o :: rest) a (w.alloc (.cells #[.int .i64 t.op, .int .i64 t.so, .string t.nm, .int .i64 t.nu, .slice A t.ks.length ca] 24)) := by
  obtain ⟨i0, hi, hz0, hz1, hz2⟩ := info_parts info24
  have hb : Below w.heap.size w (w.alloc (.cells #[.int .i64 t.op, .int .i64 t.so, .string t.nm, .int .i64 t.nu, .slice A t.ks.length ca] 24)) := (Below.refl _ _).alloc (Nat.le_refl _) _
  obtain ⟨l, hl, hk, hrow⟩ := hW.rows
  have hll : l.length = ws.length := by rw [← hl, List.length_map]
  by_cases h0 : 0 < ws.length
  · obtain ⟨b, off, rfl, hc⟩ := hrow h0
    refine wpList_append_wanted hgd s x 22 ho w.heap.size 24 i0 _ 5 64 Try.underlying22 hi hz0 hz1 hz2 rfl (by decide) _ 1 (cells5 (t, A, ca)) hs (ownsRow_one w (t, A, ca)) _ ws.length wcap (flatN l) hx (by rw [flatN_len, hll]) (fun j u hj => cellB hb (Nat.le_refl _) (hc j u hj)) (flatN_one l) (by unfold maxLen; omega) (by omega) hb.size ?_
    intro v' w' hown hgrow _ hor
    have hbw : Below w.heap.size w w' := ⟨hgrow.os.trans hb.os, hgrow.tape.trans hb.tape, hgrow.output.trans hb.output, Nat.le_trans hb.size hgrow.size, fun k hk' => (hgrow.block k (Nat.lt_of_lt_of_le hk' hb.size) (fun e => by simp [Value.ownBlock] at e; omega)).trans (hb.block k hk')⟩
    have hrow' : w'.ownsRow w.heap.size 24 5 v' ((t, A, ca) :: l).length (flatN ((t, A, ca) :: l)) := by
      rw [flatN_cons, List.length_cons, hll, Nat.add_comm]; exact hown
    obtain ⟨A', cap', rfl, hL⟩ := lies_of_row hrow' (fun y hy => by
      rcases List.mem_cons.1 hy with rfl | hy
      · exact ⟨hA.later hbw, hf⟩
      · exact ⟨(hk y hy).1.later hbw, (hk y hy).2⟩) (by rw [List.length_cons, hll]; unfold maxLen; omega)
    rw [List.map_cons, hl] at hL ⊢
    exact h A' cap' w' hL hbw
  · obtain rfl : ws = [] := List.length_eq_zero_iff.1 (by omega)
    refine wpList_wanted hgd fun K hK => ?_
    have hr := run_append_empty (P := Try.prog) (w.alloc (.cells #[.int .i64 t.op, .int .i64 t.so, .string t.nm, .int .i64 t.nu, .slice A t.ks.length ca] 24)) 22 o.type 24 i0 Try.underlying22 hi w.heap.size 1 1 (Nat.le_refl _) WA wcap
    have hx' : a.eval x = .slice WA 0 wcap := hx
    unfold Oper.wp execOp
    simp only [ho, resolve, invoke, builtin, Sem.run_bind, Sem.run_pure, Result.andThen_ok, List.map_toArray, List.map_cons, List.map_nil, hs, hx', hr]
    exact hK _ _ (h (some ⟨w.heap.size, 0, none⟩) 1 _ (lies_one (five_new w t (.slice A t.ks.length ca) 24) (hA.later hb) hf) hb)
end
end Go.Proofs.Ytpjokapkoeclpaa
