/-
  The document's own parser answers as the grammar says, whatever the phrase; conditions: the text is no longer than a string can be.
-/
import Derived.Test.YtgkjcimgghflmaaGreatDoorZRm3
import Derived.Test.YtgkjcimgghflmaaGreatDoorZRu0
import Derived.Test.YtgkjcimgghflmaaGreatDoorZRpr
import Derived.Test.YtgkjcimgghflmaaGreatDoorZRl4
import Derived.Test.YtgkjcimgghflmaaGreatDoorZRl6
namespace Go.Proofs.YtgkjcimgghflmaaGreatDoor
set_option maxRecDepth 100000
set_option maxHeartbeats 8000000
open Go.RowKit Go.Shelf
theorem moves_below {F : Nat} {args : Array Value} {p : Nat} {s : ByteArray} {a : Nat} {o e : Int} {wh : Nat} {W : World} (h : PSt W p s a o e wh) (c : Calls Tryz.prog F args W fun r W' => r = .returned (.tuple #[]) ∧ Below W.heap.size W W') : Moves F args p s a o e wh W :=
 c.mono fun _ _ ⟨h1, h2⟩ => ⟨h1, h.later h2, Fr.of h2⟩
theorem lev_live {s : ByteArray} {a b0 o : Nat} {r : PR} {u : Nd} {b : Nat} {o' er' : Int} {wh' : Nat} (hb : a ≤ b0) (hl : ¬ 90 < o + 1) (h3 : ZR s b0 (o + 1) r u b o' er' wh') : ZR s a o (opn (o + 1) r) u b (wrap64 (o' - 1)) er' wh' := by
 obtain ⟨k1, k2, k3⟩ := h3
 refine ⟨by omega, k2, ?_⟩
 rw [opn, if_neg hl]
 cases r with
 | out => exact k3.elim
 | err e w => exact k3
 | ok r a2 =>
  obtain ⟨rfl, rfl, rfl, rfl, rfl⟩ := k3
  exact ⟨rfl, rfl, wrap_back o (by omega), rfl, rfl⟩
theorem lev_lim {s : ByteArray} {a b o : Nat} {r : PR} {t : Nd} {o' : Int} (hb : a ≤ b) (h2 : b ≤ s.size) (hl : 90 < o + 1) : ZR s a o (opn (o + 1) r) t b o' 2 0 := by
 refine ⟨hb, h2, ?_⟩
 rw [opn, if_pos hl]
 exact ⟨rfl, rfl, by decide⟩
theorem lev_err {s : ByteArray} {a b o : Nat} {r : PR} {t : Nd} {o' e : Int} {wh : Nat} (hb : a ≤ b) (h2 : b ≤ s.size) (he : e ≠ 0) (hr : r = .err e wh) : ZR s a o r t b o' e wh := by
 subst hr; exact ⟨hb, h2, rfl, rfl, he⟩
theorem dword_step (s : ByteArray) (hs : s.size ≤ 9223372036854775000) (f : Nat) (hi : ∀ g, g ≤ f → LiveOk s g .form 21) (op : Int) (n : Nat) (hn : 1 ≤ n) (hn3 : n ≤ 3) (hop : (Lit.int .i64 op).wf = true) (p o b : Nat) (W : World) (h : PSt W p s b o 0 0) (hb : b ≤ s.size) (ho : o ≤ 90) (hf : 32 * (s.size - b) + 18 < f) :
  Calls Tryz.prog 166 #[.pointer (some ⟨p, 0, none⟩), .int .i64 op, .int .i64 n] W (Ret1 p s (ZR s b o (want s [40] b fun a1 => opn (o + 1) (PA s f (.word op n []) (o + 1) a1))) W) := by
 by_cases ht : T s b = [40]
 ·rw [want, if_pos ht]
  obtain ⟨m1, m2⟩ := nxt_lt hb ht (by decide)
  by_cases hl : 90 < o + 1
  ·refine dword_any op n hn hn3 p s b o W h hop (nxt s b) o 0 0 (nxt s b) (o + 1) 2 0 (fun ks a o' e wh => ks = [] ∧ a = nxt s b ∧ o' = (o : Int) + 1 ∧ e = 2 ∧ wh = 0) _ (fun W' hp => want_yes [40] p s b o 0 W' hp hb hs ht) (fun W' hp => open_lim p s _ o 0 W' hp (by omega) (by omega)) ⟨rfl, rfl, rfl, rfl, rfl⟩ ?_ ?_ ?_
   ·rintro ks a o' e wh ⟨rfl, _⟩; exact Nat.zero_le _
   ·rintro ks a o' wh ⟨_, _, _, h2, _⟩; cases h2
   ·rintro ks a o' e wh ⟨rfl, rfl, rfl, rfl, rfl⟩ _
    exact ⟨_, _, _, _, fun W' hp => moves_below hp (want_dead [41] p s _ _ _ _ W' hp m2 hs (by decide) (by decide)), lev_lim (by omega) m2 hl⟩
  ·refine dword_any op n hn hn3 p s b o W h hop (nxt s b) o 0 0 (nxt s b) (o + 1) 0 0 (fun ks a' o' e wh => b ≤ a' ∧ a' ≤ s.size ∧ ks.length ≤ n ∧ ((e = 0 ∧ wh = 0 ∧ o' = ((o + 1 : Nat) : Int) ∧ ∃ g, g ≤ f ∧ 32 * (s.size - a') + 18 < g ∧ PA s f (.word op n []) (o + 1) (nxt s b) = PA s g (.word op n ks) (o + 1) a') ∨ (e ≠ 0 ∧ PA s f (.word op n []) (o + 1) (nxt s b) = .err e wh))) _
    (fun W' hp => want_yes [40] p s b o 0 W' hp hb hs ht) (fun W' hp => open_live p s _ o 0 W' hp (by omega) (by omega)) ⟨by omega, m2, Nat.zero_le _, .inl ⟨rfl, rfl, by omega, f, Nat.le_refl _, by omega, rfl⟩⟩ ?_ ?_ ?_
   ·rintro ks a o' e wh ⟨_, _, hk, _⟩; exact hk
   ·rintro ks a' o' wh ⟨ha, ha', hk, hc⟩ hlt
    obtain ⟨_, rfl, rfl, g, hgf, hg, hR⟩ : (0 : Int) = 0 ∧ wh = 0 ∧ o' = ((o + 1 : Nat) : Int) ∧ ∃ g, g ≤ f ∧ 32 * (s.size - a') + 18 < g ∧ PA s f (.word op n []) (o + 1) (nxt s b) = PA s g (.word op n ks) (o + 1) a' := by
     rcases hc with hc | ⟨hc, _⟩
     ·exact hc
     ·exact absurd rfl hc
    obtain ⟨g, rfl⟩ : ∃ g', g = g' + 1 := ⟨g - 1, by omega⟩
    by_cases hks : ks = []
    ·subst hks
     rw [PA, if_neg (by simp; omega), if_pos rfl] at hR
     have hf2 : 32 * (s.size - a') + rank .form < g := by simp [rank]; omega
     refine ⟨a', _, 0, 0, ZR s a' (o + 1) (PA s g .form (o + 1) a'), fun hh => absurd rfl hh, fun _ => ⟨rfl, rfl, rfl, rfl⟩, fun W' hp => hi g (by omega) p (o + 1) a' W' hp ha' (by omega) hf2, ?_⟩
     rintro u a3 o3 e3 wh3 ⟨k1, k2, k3⟩
     refine ⟨by omega, k2, by simpa using hn, ?_⟩
     have hen := enough s g .form (o + 1) a' ha' hf2
     cases hq : PA s g .form (o + 1) a' with
     | out => rw [hq] at k3; exact k3.elim
     | err e w =>
      rw [hq] at k3 hR
      obtain ⟨rfl, rfl, h0⟩ := k3
      exact .inr ⟨h0, hR⟩
     | ok t a2 =>
      rw [hq] at k3 hR hen
      obtain ⟨rfl, rfl, rfl, rfl, rfl⟩ := k3
      have := hen.2.1 rfl
      exact .inl ⟨rfl, rfl, rfl, g, by omega, by omega, hR⟩
    ·by_cases h44 : T s a' = [44]
     ·obtain ⟨q1, q2⟩ := nxt_lt ha' h44 (by decide)
      rw [PA, if_neg (by omega), if_neg hks, want, if_pos h44] at hR
      have hf2 : 32 * (s.size - nxt s a') + rank .form < g := by simp [rank]; omega
      refine ⟨nxt s a', _, 0, 0, ZR s (nxt s a') (o + 1) (PA s g .form (o + 1) (nxt s a')), fun _ W' hp => want_yes [44] p s a' _ 0 W' hp ha' hs h44, fun hh => absurd hh hks, fun W' hp => hi g (by omega) p (o + 1) _ W' hp q2 (by omega) hf2, ?_⟩
      rintro u a3 o3 e3 wh3 ⟨k1, k2, k3⟩
      refine ⟨by omega, k2, by rw [List.length_append]; simp; omega, ?_⟩
      have hen := enough s g .form (o + 1) (nxt s a') q2 hf2
      cases hq : PA s g .form (o + 1) (nxt s a') with
      | out => rw [hq] at k3; exact k3.elim
      | err e w =>
       rw [hq] at k3 hR
       obtain ⟨rfl, rfl, h0⟩ := k3
       exact .inr ⟨h0, hR⟩
      | ok t a2 =>
       rw [hq] at k3 hR hen
       obtain ⟨rfl, rfl, rfl, rfl, rfl⟩ := k3
       have := hen.2.1 rfl
       exact .inl ⟨rfl, rfl, rfl, g, by omega, by omega, hR⟩
     ·rw [PA, if_neg (by omega), if_neg hks, want, if_neg h44] at hR
      refine ⟨a', _, 20, a', ZD a' ((o + 1 : Nat) : Int) 20 a', fun _ W' hp => want_no [44] p s a' _ 0 W' hp ha' hs h44, fun hh => absurd hh hks, fun W' hp => dead_form.ret hp ha' hs (by decide), ?_⟩
      rintro u a3 o3 e3 wh3 ⟨rfl, rfl, rfl, rfl⟩
      exact ⟨ha, ha', by rw [List.length_append]; simp; omega, .inr ⟨by decide, hR⟩⟩
   ·rintro ks a' o' e wh ⟨ha, ha', hk, hc⟩ hend
    rcases hc with ⟨rfl, rfl, rfl, g, hgf, hg, hR⟩ | ⟨he, hR⟩
    ·have hkn : ks.length = n := by rcases hend with hh | hh; exact absurd rfl hh; exact hh
     obtain ⟨g, rfl⟩ : ∃ g', g = g' + 1 := ⟨g - 1, by omega⟩
     rw [PA, if_pos hkn, want] at hR
     by_cases h41 : T s a' = [41]
     ·rw [if_pos h41] at hR
      obtain ⟨q1, q2⟩ := nxt_lt ha' h41 (by decide)
      rw [hR]
      exact ⟨_, _, _, _, fun W' hp => want_yes [41] p s a' _ 0 W' hp ha' hs h41, lev_live (Nat.le_refl _) hl ⟨by omega, q2, rfl, rfl, rfl, rfl, rfl⟩⟩
     ·rw [if_neg h41] at hR
      rw [hR]
      exact ⟨_, _, _, _, fun W' hp => want_no [41] p s a' _ 0 W' hp ha' hs h41, lev_live (Nat.le_refl _) hl ⟨ha, ha', rfl, rfl, by decide⟩⟩
    ·rw [hR]
     exact ⟨_, _, _, _, fun W' hp => moves_below hp (want_dead [41] p s _ _ _ _ W' hp ha' hs he (by decide)), lev_live (Nat.le_refl _) hl ⟨ha, ha', rfl, rfl, he⟩⟩
 ·rw [want, if_neg ht]
  refine dword_any op n hn hn3 p s b o W h hop b o 20 b b (o + 1) 20 b (fun ks a o' e wh => ks = [] ∧ a = b ∧ o' = (o : Int) + 1 ∧ e = 20 ∧ wh = b) _ (fun W' hp => want_no [40] p s b o 0 W' hp hb hs ht) (fun W' hp => open_dead p s b o 20 b W' hp (by omega) (by omega) (by decide)) ⟨rfl, rfl, rfl, rfl, rfl⟩ ?_ ?_ ?_
  ·rintro ks a o' e wh ⟨rfl, _⟩; exact Nat.zero_le _
  ·rintro ks a o' wh ⟨_, _, _, h2, _⟩; cases h2
  ·rintro ks a o' e wh ⟨rfl, rfl, rfl, rfl, rfl⟩ _
   exact ⟨_, _, _, _, fun W' hp => moves_below hp (want_dead [41] p s _ _ _ _ W' hp hb hs (by decide) (by decide)), lev_err (Nat.le_refl _) hb (by decide) rfl⟩
end Go.Proofs.YtgkjcimgghflmaaGreatDoor
namespace Go.Proofs.YtgkjcimgghflmaaGreatDoor
set_option maxRecDepth 100000
set_option maxHeartbeats 8000000
open Go.RowKit Go.Shelf
theorem wordA_some {t : List UInt8} {op : Int} {n : Nat} (h : wordA t = some (op, n)) : op ≠ 0 ∧ 1 ≤ n ∧ n ≤ 3 ∧ (Lit.int .i64 op).wf = true ∧ t ≠ [] := by
 unfold wordA at h
 repeat' (first | (split at h; · rename_i e; subst e; simp only [Option.some.injEq, Prod.mk.injEq] at h; obtain ⟨rfl, rfl⟩ := h; decide))
 cases h
theorem dapp_step (s : ByteArray) (hs : s.size ≤ 9223372036854775000) (f : Nat) (hi : ∀ g, g ≤ f → LiveOk s g .form 21) (p o a : Nat) (W : World) (h : PSt W p s a o 0 0) (ha : a ≤ s.size) (ho : o ≤ 90) (hf : 32 * (s.size - a) + 5 < f + 1)
  (hk : noKey (T s a)) (hw : wordA (T s a) = none) (hnm : nameB (bs (T s a)) = true) (hop : T s (nxt s a) = [40]) :
  Calls Tryz.prog 160 #[.pointer (some ⟨p, 0, none⟩)] W (Ret1 p s (ZR s a o (opn (o + 1) (if T s (nxt s (nxt s a)) = [41] then .ok (.mk 3 0 (bs (T s a)) 0 []) (nxt s (nxt s (nxt s a))) else PA s f (.app (T s a) []) (o + 1) (nxt s (nxt s a))))) W) := by
 have hT : T s a ≠ [] := fun e => by rw [e] at hnm; exact absurd hnm (by decide)
 obtain ⟨n1, n2⟩ := nxt_lt ha rfl hT
 obtain ⟨m1, m2⟩ := nxt_lt n2 hop (by decide)
 have hlen : (T s a).length ≤ maxLen := by
  have : (bs (T s a)).size = (T s a).length := by simp [bs, ByteArray.size]
  have := nameB_len hnm
  unfold maxLen; omega
 by_cases hl : 90 < o + 1
 ·refine dapp_any p s a o W h hs ha hk hw hnm _ rfl hop hlen (o + 1) 2 0 (fun ks a' o' e wh => ks = [] ∧ a' = nxt s (nxt s a) ∧ o' = (o : Int) + 1 ∧ e = 2 ∧ wh = 0) (fun ks a' o' e wh => a' = nxt s (nxt s a) ∧ e = 2 ∧ wh = 0) _
   (fun W' hp => open_lim p s _ o 0 W' hp (by omega) (by omega)) (fun W' hp => take_no [41] p s _ _ 2 0 W' hp m2 hs (by rw [nT_dead (by decide)]; decide)) ⟨rfl, rfl, rfl, rfl, rfl⟩ ?_ ?_ ?_
  ·rintro ks a' o' e wh ⟨rfl, _⟩; exact Nat.zero_le _
  ·rintro ks a' o' e wh ⟨rfl, rfl, rfl, rfl, rfl⟩
   refine ⟨2, 0, ZD (nxt s (nxt s a)) ((o : Int) + 1) 2 0, fun hh => absurd hh (by decide), fun _ => ⟨rfl, rfl⟩, fun W' hp => dead_form.ret hp m2 hs (by decide), ?_⟩
   rintro u a3 o3 e3 wh3 ⟨rfl, rfl, rfl, rfl⟩
   exact ⟨fun _ => ⟨rfl, rfl, rfl⟩, fun hh => absurd hh (by decide)⟩
  ·rintro ks a' o' e wh ⟨rfl, rfl, rfl⟩
   exact ⟨_, _, _, _, fun W' hp => moves_below hp (want_dead [41] p s _ _ _ _ W' hp m2 hs (by decide) (by decide)), lev_lim (by omega) m2 hl⟩
 by_cases h41 : T s (nxt s (nxt s a)) = [41]
 ·rw [if_pos h41]
  obtain ⟨q1, q2⟩ := nxt_lt m2 h41 (by decide)
  refine dapp_none p s a o W h hs ha hk hw hnm _ rfl hop h41 hlen _ (fun W' hp => open_live p s _ o 0 W' hp (by omega) (by omega)) ?_
  refine ⟨by omega, q2, ?_⟩
  rw [opn, if_neg hl]
  exact ⟨rfl, rfl, IntWalk.wrap64_in _ (by omega), rfl, rfl⟩
 ·rw [if_neg h41]
  refine dapp_any p s a o W h hs ha hk hw hnm _ rfl hop hlen (o + 1) 0 0
   (fun ks a' o' e wh => nxt s (nxt s a) ≤ a' ∧ a' ≤ s.size ∧ ks.length ≤ 8 ∧ e = 0 ∧ wh = 0 ∧ o' = ((o + 1 : Nat) : Int) ∧ ∃ g, g ≤ f ∧ 32 * (s.size - a') + 17 < g ∧ PA s f (.app (T s a) []) (o + 1) (nxt s (nxt s a)) = PA s g (.app (T s a) ks) (o + 1) a')
   (fun ks a' o' e wh => nxt s (nxt s a) ≤ a' ∧ a' ≤ s.size ∧ ((e = 0 ∧ wh = 0 ∧ o' = ((o + 1 : Nat) : Int) ∧ PA s f (.app (T s a) []) (o + 1) (nxt s (nxt s a)) = want s [41] a' fun a2 => .ok (.mk 3 0 (bs (T s a)) 0 ks) a2) ∨ (e ≠ 0 ∧ PA s f (.app (T s a) []) (o + 1) (nxt s (nxt s a)) = .err e wh))) _
   (fun W' hp => open_live p s _ o 0 W' hp (by omega) (by omega)) (fun W' hp => take_no [41] p s _ _ 0 0 W' hp m2 hs (by rw [show nT s (nxt s (nxt s a)) 0 = T s (nxt s (nxt s a)) from if_pos rfl]; exact h41)) ⟨Nat.le_refl _, m2, Nat.zero_le _, rfl, rfl, by omega, f, Nat.le_refl _, by omega, rfl⟩ ?_ ?_ ?_
  ·rintro ks a' o' e wh ⟨_, _, hk8, _⟩; exact hk8
  ·rintro ks a' o' e wh ⟨hb, ha', hk8, rfl, rfl, rfl, g, hgf, hg, hR⟩
   obtain ⟨g, rfl⟩ : ∃ g', g = g' + 1 := ⟨g - 1, by omega⟩
   by_cases h8 : ks.length = 8
   ·rw [PA, if_pos h8] at hR
    refine ⟨20, a', ZD a' ((o + 1 : Nat) : Int) 20 a', fun _ W' hp => fail_live p s a' _ 0 W' hp, fun hh => absurd h8 hh, fun W' hp => dead_form.ret hp ha' hs (by decide), ?_⟩
    rintro u a3 o3 e3 wh3 ⟨rfl, rfl, rfl, rfl⟩
    exact ⟨fun _ => ⟨hb, ha', .inr ⟨by decide, hR⟩⟩, fun hh => absurd hh (by decide)⟩
   ·rw [PA, if_neg h8] at hR
    have hf2 : 32 * (s.size - a') + rank .form < g := by simp [rank]; omega
    refine ⟨0, 0, ZR s a' (o + 1) (PA s g .form (o + 1) a'), fun hh => absurd hh h8, fun _ => ⟨rfl, rfl⟩, fun W' hp => hi g (by omega) p (o + 1) a' W' hp ha' (by omega) hf2, ?_⟩
    rintro u a3 o3 e3 wh3 ⟨k1, k2, k3⟩
    have hen := enough s g .form (o + 1) a' ha' hf2
    cases hq : PA s g .form (o + 1) a' with
    | out => rw [hq] at k3; exact k3.elim
    | err e w =>
     rw [hq] at k3 hR
     obtain ⟨rfl, rfl, h0⟩ := k3
     exact ⟨fun _ => ⟨by omega, k2, .inr ⟨h0, hR⟩⟩, fun hh => absurd hh h0⟩
    | ok t a2 =>
     rw [hq] at k3 hR hen
     obtain ⟨rfl, rfl, rfl, rfl, rfl⟩ := k3
     have hlt := hen.2.1 rfl
     refine ⟨fun hh => absurd rfl hh, fun _ => ?_⟩
     by_cases h44 : T s a3 = [44]
     ·obtain ⟨q1, q2⟩ := nxt_lt k2 h44 (by decide)
      exact .inl ⟨nxt s a3, fun W' hp => take_yes [44] p s a3 _ 0 W' hp k2 hs h44, ⟨by omega, q2, by rw [List.length_append]; simp; omega, rfl, rfl, rfl, g, by omega, by omega, hR.trans (if_pos h44)⟩, by omega, q2⟩
     ·exact .inr ⟨fun W' hp => take_no [44] p s a3 _ 0 0 W' hp k2 hs (by rw [show nT s a3 0 = T s a3 from if_pos rfl]; exact h44), by omega, k2, .inl ⟨rfl, rfl, rfl, hR.trans (if_neg h44)⟩⟩
  ·rintro ks a' o' e wh ⟨hb, ha', hc⟩
   rcases hc with ⟨rfl, rfl, rfl, hR⟩ | ⟨he, hR⟩
   ·rw [want] at hR
    by_cases h41' : T s a' = [41]
    ·rw [if_pos h41'] at hR
     obtain ⟨q1, q2⟩ := nxt_lt ha' h41' (by decide)
     rw [hR]
     exact ⟨_, _, _, _, fun W' hp => want_yes [41] p s a' _ 0 W' hp ha' hs h41', lev_live (Nat.le_refl _) hl ⟨by omega, q2, rfl, rfl, rfl, rfl, rfl⟩⟩
    ·rw [if_neg h41'] at hR
     rw [hR]
     exact ⟨_, _, _, _, fun W' hp => want_no [41] p s a' _ 0 W' hp ha' hs h41', lev_live (Nat.le_refl _) hl ⟨by omega, ha', rfl, rfl, by decide⟩⟩
   ·rw [hR]
    exact ⟨_, _, _, _, fun W' hp => moves_below hp (want_dead [41] p s _ _ _ _ W' hp ha' hs he (by decide)), lev_live (Nat.le_refl _) hl ⟨by omega, ha', rfl, rfl, he⟩⟩
end Go.Proofs.YtgkjcimgghflmaaGreatDoor
namespace Go.Proofs.YtgkjcimgghflmaaGreatDoor
set_option maxRecDepth 100000
set_option maxHeartbeats 8000000
open Go.RowKit Go.Shelf
theorem dprim_step (s : ByteArray) (hs : s.size ≤ 9223372036854775000) (f : Nat) (hi : ∀ g, g ≤ f → LiveOk s g .form 21) : LiveOk s (f + 1) .prim 160 := by
 intro p o a W h ha ho hf
 have hf : 32 * (s.size - a) + 5 < f + 1 := hf
 rw [PA]
 by_cases h40 : T s a = [40]
 ·rw [if_pos h40]
  obtain ⟨n1, n2⟩ := nxt_lt ha h40 (by decide)
  have hf2 : 32 * (s.size - nxt s a) + rank .form < f := by simp [rank]; omega
  by_cases hl : 90 < o + 1
  ·exact prim_paren p s a o W h hs (ZD (nxt s a) ((o : Int) + 1) 2 0) (ZD (nxt s a) ((o : Int) + 1) 2 0) _ 2 0 ha h40 (fun W' hp => open_lim p s _ o 0 W' hp (by omega) (by omega)) (fun W' hp => dead_form.ret hp n2 hs (by decide))
    (fun u b o' er' wh' W' hz hp => by
     obtain ⟨rfl, rfl, rfl, rfl⟩ := hz
     exact (want_dead [41] p s _ _ _ _ W' hp n2 hs (by decide) (by decide)).mono fun _ _ ⟨h1, h2⟩ => ⟨h1, Fr.of h2, _, _, _, hp.later h2, rfl, rfl, rfl, rfl⟩)
    (fun u b o' er' wh' hz => by
     obtain ⟨rfl, rfl, rfl, rfl⟩ := hz
     exact lev_lim (by omega) n2 hl)
  ·refine prim_paren p s a o W h hs (ZR s (nxt s a) (o + 1) (PA s f .form (o + 1) (nxt s a))) (ZR s (nxt s a) (o + 1) ((PA s f .form (o + 1) (nxt s a)).bind fun k a1 => want s [41] a1 fun a2 => .ok k a2)) _ 0 0 ha h40 (fun W' hp => open_live p s _ o 0 W' hp (by omega) (by omega)) (fun W' hp => hi f (Nat.le_refl _) p (o + 1) _ W' hp n2 (by omega) hf2) ?_ (fun u b o' er' wh' hz => lev_live (by omega) hl hz)
   rintro u b o' er' wh' W' ⟨k1, k2, k3⟩ hp
   cases hq : PA s f .form (o + 1) (nxt s a) with
   | out => rw [hq] at k3; exact k3.elim
   | err e w =>
    rw [hq] at k3
    obtain ⟨rfl, rfl, h0⟩ := k3
    exact (want_dead [41] p s _ _ _ _ W' hp k2 hs h0 (by decide)).mono fun _ _ ⟨h1, h2⟩ => ⟨h1, Fr.of h2, _, _, _, hp.later h2, k1, k2, rfl, rfl, h0⟩
   | ok t a2 =>
    rw [hq] at k3
    obtain ⟨rfl, rfl, rfl, rfl, rfl⟩ := k3
    by_cases h41 : T s b = [41]
    ·obtain ⟨q1, q2⟩ := nxt_lt k2 h41 (by decide)
     refine (want_yes [41] p s b _ 0 W' hp k2 hs h41).mono fun _ _ ⟨h1, h2, h3⟩ => ⟨h1, h3, _, _, _, h2, ?_⟩
     show ZR s (nxt s a) (o + 1) (want s [41] b fun a2 => .ok u a2) _ _ _ _ _
     rw [want, if_pos h41]
     exact ⟨by omega, q2, rfl, rfl, rfl, rfl, rfl⟩
    ·refine (want_no [41] p s b _ 0 W' hp k2 hs h41).mono fun _ _ ⟨h1, h2, h3⟩ => ⟨h1, h3, _, _, _, h2, ?_⟩
     show ZR s (nxt s a) (o + 1) (want s [41] b fun a2 => .ok u a2) _ _ _ _ _
     rw [want, if_neg h41]
     exact ⟨k1, k2, rfl, rfl, by decide⟩
 rw [if_neg h40]
 by_cases ht : T s a = [116, 114, 117, 101]
 ·rw [if_pos ht]
  obtain ⟨n1, n2⟩ := nxt_lt ha ht (by decide)
  exact prim_true p s a o W h hs _ ha ht ⟨by omega, n2, rfl, rfl, rfl, rfl, rfl⟩
 rw [if_neg ht]
 by_cases hfa : T s a = [102, 97, 108, 115, 101]
 ·rw [if_pos hfa]
  obtain ⟨n1, n2⟩ := nxt_lt ha hfa (by decide)
  exact prim_false p s a o W h hs _ ha hfa ⟨by omega, n2, rfl, rfl, rfl, rfl, rfl⟩
 rw [if_neg hfa]
 by_cases hem : T s a = [101, 109, 112, 116, 121]
 ·rw [if_pos hem]
  obtain ⟨n1, n2⟩ := nxt_lt ha hem (by decide)
  exact prim_empty p s a o W h hs _ ha hem ⟨by omega, n2, rfl, rfl, rfl, rfl, rfl⟩
 rw [if_neg hem]
 have hk : noKey (T s a) := ⟨h40, ht, hfa, hem⟩
 cases hw : wordA (T s a) with
 | some on =>
  obtain ⟨op, n⟩ := on
  obtain ⟨w0, w1, w2, w3, w4⟩ := wordA_some hw
  obtain ⟨n1, n2⟩ := nxt_lt ha rfl w4
  refine dprim_word p s a o W h hs ha hk op n hw w0 _ fun W' hp => ?_
  refine (dword_step s hs f hi op n w1 w2 w3 p o (nxt s a) W' hp n2 ho (by omega)).mono ?_
  rintro e W2 ⟨t, A, cap, a', o', er, wh, h1, h2, h3, h4, h5, k1, k2, k3⟩
  exact ⟨t, A, cap, a', o', er, wh, h1, h2, h3, h4, h5, by omega, k2, k3⟩
 | none =>
  show Calls Tryz.prog 160 _ W (Ret1 p s (ZR s a o (if nameB (bs (T s a)) = true then _ else _)) W)
  cases hn : nameB (bs (T s a)) with
  | false => exact prim_bad p s a o W h hs _ ha hk hw hn ⟨Nat.le_refl _, ha, rfl, rfl, by decide⟩
  | true =>
   rw [if_pos rfl]
   have hT : T s a ≠ [] := fun e => by rw [e] at hn; exact absurd hn (by decide)
   obtain ⟨n1, n2⟩ := nxt_lt ha rfl hT
   by_cases hop : T s (nxt s a) = [40]
   ·rw [if_pos hop]
    exact dapp_step s hs f hi p o a W h ha ho hf hk hw hn hop
   ·rw [if_neg hop]
    have hlen : (T s a).length ≤ maxLen := by
     have : (bs (T s a)).size = (T s a).length := by simp [bs, ByteArray.size]
     have := nameB_len hn
     unfold maxLen; omega
    exact prim_var p s a o W h hs _ ha hk hw hn hop hlen ⟨by omega, n2, rfl, rfl, rfl, rfl, rfl⟩
structure AllD (s : ByteArray) (f : Nat) : Prop where
 form : LiveOk s f .form 21
 imp : LiveOk s f .imp 36
 or : LiveOk s f .or 73
 and : LiveOk s f .and 111
 not : LiveOk s f .not 129
 cmp : LiveOk s f .cmp 140
 sum : LiveOk s f .sum 150
 una : LiveOk s f .una 155
 prim : LiveOk s f .prim 160
theorem liveD_zero (s : ByteArray) (nt : NT) (F : Nat) : LiveOk s 0 nt F := fun _ _ _ _ _ _ _ h => absurd h (by omega)
theorem all_phrasesD (s : ByteArray) (hs : s.size ≤ 9223372036854775000) : ∀ f g, g ≤ f → AllD s g := by
 intro f
 induction f with
 | zero =>
  intro g hg
  obtain rfl : g = 0 := by omega
  exact ⟨liveD_zero _ _ _, liveD_zero _ _ _, liveD_zero _ _ _, liveD_zero _ _ _, liveD_zero _ _ _, liveD_zero _ _ _, liveD_zero _ _ _, liveD_zero _ _ _, liveD_zero _ _ _⟩
 | succ f ih =>
  intro g hg
  by_cases h : g ≤ f
  ·exact ih g h
  obtain rfl : g = f + 1 := by omega
  have I := ih f (Nat.le_refl _)
  exact ⟨form_step s hs f I.imp I.form, imp_step s hs f I.or I.imp, or_step s hs f fun g hg => (ih g hg).and, and_step s hs f fun g hg => (ih g hg).not, not_step s hs f I.cmp I.not, cmp_step s hs f I.sum, sum_step s hs f fun g hg => (ih g hg).una, una_step s hs f I.prim I.una, dprim_step s hs f fun g hg => (ih g hg).form⟩
theorem formulaD_any (s : ByteArray) (hs : s.size ≤ 9223372036854775000) (f : Nat) : LiveOk s f .form 21 := (all_phrasesD s hs f f (Nat.le_refl _)).form
end Go.Proofs.YtgkjcimgghflmaaGreatDoor
