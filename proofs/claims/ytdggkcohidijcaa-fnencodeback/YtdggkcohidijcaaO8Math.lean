/- One merge more; merging keeps the bytes; no program is named here. -/
import Derived.Test.YtdggkcohidijcaaN8Math
namespace Go.Proofs.Ytdggkcohidijcaa
open Go.RowKit
set_option linter.unusedVariables false
set_option linter.unusedSimpArgs false

theorem place_P {M : List S_Pair} {ts : List Int} {i r : Nat} (h : placeF M ts = some (i, r)) : PlaceP M ts i r := by
  unfold placeF at h
  rcases h1 : (List.range M.length).find? (fun r => (List.range ts.length).any (matB M ts r)) with _ | r1
  · rw [h1] at h; cases h
  · rw [h1] at h
    have h' : (match (List.range ts.length).find? (matB M ts r1) with
      | none => none
      | some i => some (i, r1)) = some (i, r) := h
    rcases h2 : (List.range ts.length).find? (matB M ts r1) with _ | i1
    · rw [h2] at h'; cases h'
    · rw [h2] at h'
      cases h'
      rw [List.find?_range_eq_some] at h1 h2
      refine ⟨h2.1, fun r' hr' i' => ?_, fun i' hi' => by simpa using h2.2.2 i' hi'⟩
      rcases hm : matB M ts r' i' with _ | _
      · rfl
      · have h3 := h1.2.2 r' hr'
        have h4 : (List.range ts.length).any (matB M ts r') = true := by
          rw [List.any_eq_true]
          exact ⟨i', by rw [List.mem_range]; have := (matB_lt hm).2; omega, hm⟩
        rw [h4] at h3
        cases h3

theorem place_no {M : List S_Pair} {ts : List Int} (h : placeF M ts = none) (r i : Nat) : matB M ts r i = false := by
  rcases hm : matB M ts r i with _ | _
  · rfl
  · exfalso
    have hl := matB_lt hm
    unfold placeF at h
    rcases h1 : (List.range M.length).find? (fun r => (List.range ts.length).any (matB M ts r)) with _ | r1
    · rw [List.find?_eq_none] at h1
      have := h1 r (by rw [List.mem_range]; exact hl.1)
      apply this
      show (List.range ts.length).any (matB M ts r) = true
      rw [List.any_eq_true]
      exact ⟨i, by rw [List.mem_range]; omega, hm⟩
    · rw [h1] at h
      have h' : (match (List.range ts.length).find? (matB M ts r1) with
        | none => none
        | some i => some (i, r1)) = none := h
      rcases h2 : (List.range ts.length).find? (matB M ts r1) with _ | i1
      · have h3 := (List.find?_range_eq_some.1 h1).1
        rw [List.any_eq_true] at h3
        obtain ⟨x, hx, hxm⟩ := h3
        rw [List.find?_eq_none] at h2
        exact h2 x hx hxm
      · rw [h2] at h'; cases h'

/-- All merged: nothing merges any more. -/
theorem bpe_stable (M : List S_Pair) : ∀ (n : Nat) (ts : List Int), ts.length ≤ n → placeF M (bpeL M ts) = none
  | n, ts, hn => by
    rcases hp : placeF M ts with _ | ⟨i, r⟩
    · unfold bpeL; rw [bpeN_none hp]; exact hp
    · rw [bpeL_step hp]
      have hl := mgT_len (r := r) (matB_lt (place_is hp)).2
      match n, hn with
      | 0, hn => omega
      | n + 1, hn => exact bpe_stable M n _ (by omega)

/-- The merges but the last. -/
theorem matB_take {M : List S_Pair} {ts : List Int} {n r i : Nat} (h : matB (M.take n) ts r i = true) : r < n ∧ matB M ts r i = true := by
  obtain ⟨p, a, b, h1, h2, h3, h4, h5⟩ := matB_iff.1 h
  rw [List.getElem?_take] at h1
  by_cases hr : r < n
  · rw [if_pos hr] at h1
    exact ⟨hr, matB_iff.2 ⟨p, a, b, h1, h2, h3, h4, h5⟩⟩
  · rw [if_neg hr] at h1; cases h1
theorem matB_untake {M : List S_Pair} {ts : List Int} {n r i : Nat} (hr : r < n) (h : matB M ts r i = true) : matB (M.take n) ts r i = true := by
  obtain ⟨p, a, b, h1, h2, h3, h4, h5⟩ := matB_iff.1 h
  exact matB_iff.2 ⟨p, a, b, by rw [List.getElem?_take, if_pos hr]; exact h1, h2, h3, h4, h5⟩

theorem place_take {M : List S_Pair} {ts : List Int} {n i r : Nat} (h : placeF (M.take n) ts = some (i, r)) : placeF M ts = some (i, r) := by
  obtain ⟨h1, h2, h3⟩ := place_P h
  obtain ⟨hr, hm⟩ := matB_take h1
  refine place_some ⟨hm, fun r' hr' i' => ?_, fun i' hi' => ?_⟩
  · rcases hx : matB M ts r' i' with _ | _
    · rfl
    · have := h2 r' hr' i'
      rw [matB_untake (by omega) hx] at this
      cases this
  · rcases hx : matB M ts r i' with _ | _
    · rfl
    · have := h3 i' hi'
      rw [matB_untake hr hx] at this
      cases this

theorem bpe_take (M : List S_Pair) (n : Nat) : ∀ (m : Nat) (ts : List Int), ts.length ≤ m → bpeL M (bpeL (M.take n) ts) = bpeL M ts
  | m, ts, hm => by
    rcases hp : placeF (M.take n) ts with _ | ⟨i, r⟩
    · unfold bpeL; rw [bpeN_none hp]
    · rw [bpeL_step hp, bpeL_step (place_take hp)]
      have hl := mgT_len (r := r) (matB_lt (place_is hp)).2
      match m, hm with
      | 0, hm => omega
      | m + 1, hm => exact bpe_take M n m _ (by omega)

theorem tabK_take (M : List S_Pair) (n : Nat) : ∀ k, k ≤ n → tabK (M.take n) k = tabK M k
  | 0, _ => rfl
  | k + 1, h => by
    show (match tabK (M.take n) k, (M.take n)[k]? with
      | some t, some p => if okP t p then some (t ++ [jnV t p]) else none
      | _, _ => none) = (match tabK M k, M[k]? with
      | some t, some p => if okP t p then some (t ++ [jnV t p]) else none
      | _, _ => none)
    rw [tabK_take M n k (by omega), List.getElem?_take, if_pos (by omega)]

theorem tabK_pre {M : List S_Pair} {k : Nat} {t : List ByteArray} (h : tabK M k = some t) : ∀ d, d ≤ k → ∃ t', tabK M d = some t' := by
  intro d hd
  rcases h' : tabK M d with _ | t'
  · have := tab_none h' (k - d)
    rw [show d + (k - d) = k by omega, h] at this
    cases this
  · exact ⟨t', rfl⟩

theorem okV_take {M : List S_Pair} (h : okV M) {n : Nat} (hn : n ≤ M.length) : okV (M.take n) := by
  obtain ⟨t, ht⟩ := okV_tab h
  obtain ⟨h60, hk⟩ := tabV_some ht
  obtain ⟨t', ht'⟩ := tabK_pre hk n hn
  have hl : (M.take n).length = n := by rw [List.length_take]; omega
  refine okV_yes (t := t') (tabV_yes ?_ (by omega))
  rw [hl, tabK_take M n n (Nat.le_refl _)]
  exact ht'

/-- A merge is made of what was there before it. -/
theorem okV_old {M : List S_Pair} (h : okV M) {r : Nat} {p : S_Pair} (hp : M[r]? = some p) : (0 ≤ p.f0 ∧ p.f0 ≤ 255 + (r : Int)) ∧ (0 ≤ p.f1 ∧ p.f1 ≤ 255 + (r : Int)) := by
  obtain ⟨t, ht⟩ := okV_tab h
  obtain ⟨h60, hk⟩ := tabV_some ht
  have hr := (List.getElem?_eq_some_iff.1 hp).1
  obtain ⟨t', ht'⟩ := tabK_pre hk (r + 1) (by omega)
  obtain ⟨t0, p', h0, hp', hok, _⟩ := tab_inv ht'
  rw [hp] at hp'
  cases hp'
  have hl := tab_len h0
  have a := hok.1
  have b := hok.2.1
  unfold inV at a b
  rw [hl] at a b
  exact ⟨a, b⟩

theorem mgT_at_lt {ts : List Int} {i r j : Nat} (hi : i + 1 < ts.length) (hj : j < i) : (mgT ts i r)[j]? = ts[j]? := by
  unfold mgT
  rw [List.getElem?_append_left (by rw [List.length_take]; omega), List.getElem?_take, if_pos hj]
theorem mgT_mid {ts : List Int} {i r : Nat} (hi : i + 1 < ts.length) : (mgT ts i r)[i]? = some (256 + (r : Int)) := by
  unfold mgT
  rw [List.getElem?_append_right (by rw [List.length_take]; omega), List.length_take, show i - min i ts.length = 0 by omega]
  rfl
theorem mgT_at_gt {ts : List Int} {i r j : Nat} (hi : i + 1 < ts.length) (hj : i < j) : (mgT ts i r)[j]? = ts[j + 1]? := by
  unfold mgT
  rw [List.getElem?_append_right (by rw [List.length_take]; omega), List.length_take, show j - min i ts.length = (j - i - 1) + 1 by omega, List.getElem?_cons_succ, List.getElem?_drop, show i + 2 + (j - i - 1) = j + 1 by omega]

/-- What the last merge makes merges with nothing. -/
theorem last_stays {M : List S_Pair} (h : okV M) {n : Nat} (hn : n + 1 = M.length) {ts : List Int} {i : Nat} (hi : i + 1 < ts.length) (hs : placeF (M.take n) ts = none) : placeF (M.take n) (mgT ts i n) = none := by
  refine place_none fun r j => ?_
  rcases hm : matB (M.take n) (mgT ts i n) r j with _ | _
  · rfl
  · exfalso
    obtain ⟨hr, hm'⟩ := matB_take hm
    obtain ⟨p, a, b, h1, h2, h3, h4, h5⟩ := matB_iff.1 hm'
    have ho := okV_old h h1
    have hja : j ≠ i := fun e => by
      rw [e, mgT_mid hi] at h2
      cases h2
      omega
    have hjb : j + 1 ≠ i := fun e => by
      rw [e, mgT_mid hi] at h3
      cases h3
      omega
    rcases Nat.lt_or_ge j i with hlt | hge
    · rw [mgT_at_lt hi (by omega)] at h2 h3
      have := place_no hs r j
      rw [matB_untake hr (matB_iff.2 ⟨p, a, b, h1, h2, h3, h4, h5⟩)] at this
      cases this
    · rw [mgT_at_gt hi (by omega)] at h2 h3
      have := place_no hs r (j + 1)
      rw [matB_untake hr (matB_iff.2 ⟨p, a, b, h1, h2, h3, h4, h5⟩)] at this
      cases this

/-- While the last merge is carried out. -/
structure OmS (L : List S_Pair) (R : List Int) (n z m : Nat) (ts : List Int) (k : Nat) : Prop where
  nv : NvS L R z ts k
  no : placeF (L.take n) ts = none
  len : ts.length ≤ m

theorem OmS.at {L : List S_Pair} {R ts : List Int} {n z m k i r : Nat} (S : OmS L R n z m ts k) (hn : n + 1 = L.length) (hp : placeF L ts = some (i, r)) : r = n ∧ i + 1 < ts.length ∧ OmS L R n z m (mgT ts i r) (k + 1) ∧ (∀ j, j < i → (mgT ts i r)[j]? = ts[j]?) ∧ (mgT ts i r)[i]? = some (256 + (n : Int)) ∧ ∃ a, ts[i]? = some a ∧ a ≠ 256 + (n : Int) := by
  have hm := place_is hp
  have hl := matB_lt hm
  have hr : r = n := by
    rcases Nat.lt_or_ge r n with h | h
    · have := place_no S.no r i
      rw [matB_untake h hm] at this
      cases this
    · have := hl.1
      omega
  subst hr
  have hlen := mgT_len (r := r) hl.2
  obtain ⟨p, a, b, h1, h2, h3, h4, h5⟩ := matB_iff.1 hm
  have ho := okV_old S.nv.ok.1 h1
  exact ⟨rfl, hl.2, ⟨S.nv.step hp, last_stays S.nv.ok.1 hn hl.2 S.no, by have := S.len; omega⟩, fun j hj => mgT_at_lt hl.2 hj, mgT_mid hl.2, a, h2, by omega⟩

/-- Merging keeps the bytes. -/
theorem byt_pre {t u : List ByteArray} {x : Int} (h : inV t x) : bytV (t ++ u) x = bytV t x := by
  unfold inV at h
  unfold bytV
  by_cases h2 : x < 256
  · rw [if_pos h2, if_pos h2]
  · rw [if_neg h2, if_neg h2, List.getElem?_append_left (by omega)]

theorem tabK_grow {M : List S_Pair} : ∀ {k : Nat} {t : List ByteArray}, tabK M k = some t → ∀ d t', d ≤ k → tabK M d = some t' → ∃ u, t = t' ++ u
  | 0, t, h, d, t', hd, h' => by
    have e : d = 0 := by omega
    subst e
    rw [h] at h'
    cases h'
    exact ⟨[], by simp⟩
  | k + 1, t, h, d, t', hd, h' => by
    rcases Nat.lt_or_ge d (k + 1) with hlt | hge
    · obtain ⟨t0, p, h0, hp, hok, rfl⟩ := tab_inv h
      obtain ⟨u, rfl⟩ := tabK_grow h0 d t' (by omega) h'
      exact ⟨u ++ [jnV (t' ++ u) p], by rw [List.append_assoc]⟩
    · have e : d = k + 1 := by omega
      subst e
      rw [h] at h'
      cases h'
      exact ⟨[], by simp⟩

theorem byt_merge {M : List S_Pair} {t : List ByteArray} (h : tabV M = some t) {r : Nat} {p : S_Pair} (hp : M[r]? = some p) : bytV t (256 + (r : Int)) = bytV t p.f0 ++ bytV t p.f1 := by
  obtain ⟨h60, hk⟩ := tabV_some h
  have hr := (List.getElem?_eq_some_iff.1 hp).1
  obtain ⟨t', ht'⟩ := tabK_pre hk (r + 1) (by omega)
  obtain ⟨t0, p', h0, hp', hok, rfl⟩ := tab_inv ht'
  rw [hp] at hp'
  cases hp'
  obtain ⟨u, rfl⟩ := tabK_grow hk (r + 1) _ (by omega) ht'
  have hl := tab_len h0
  rw [List.append_assoc, byt_pre hok.1, byt_pre hok.2.1]
  have e1 : bytV (t0 ++ ([jnV t0 p] ++ u)) (256 + (r : Int)) = jnV t0 p := by
    unfold bytV
    rw [if_neg (by omega), show ((256 : Int) + (r : Int) - 256).toNat = r by omega, List.getElem?_append_right (by omega), hl, Nat.sub_self]
    rfl
  rw [e1]
  rfl

theorem catB_fold : ∀ (l : List ByteArray) (acc : ByteArray), l.foldl (· ++ ·) acc = acc ++ catB l
  | [], acc => by show acc = acc ++ (⟨#[]⟩ : ByteArray); exact (ByteArray.append_empty).symm
  | b :: l, acc => by
    have e1 : catB (b :: l) = b ++ catB l := by
      show l.foldl (· ++ ·) ((⟨#[]⟩ : ByteArray) ++ b) = _
      rw [catB_fold l, show ((⟨#[]⟩ : ByteArray) ++ b) = b from ByteArray.empty_append]
    show l.foldl (· ++ ·) (acc ++ b) = _
    rw [catB_fold l, e1, ByteArray.append_assoc]

theorem catB_app (a b : List ByteArray) : catB (a ++ b) = catB a ++ catB b := by
  conv => lhs; unfold catB
  rw [List.foldl_append, catB_fold b]
  rfl

theorem de_mg {L : List S_Pair} {ts : List Int} {i r : Nat} (h : okT L ts) (hp : placeF L ts = some (i, r)) : deB L (mgT ts i r) = deB L ts := by
  obtain ⟨t, ht⟩ := okV_tab h.1
  rw [deB_yes h ht, deB_yes (okT_mg h hp) ht]
  obtain ⟨p, a, b, h1, h2, h3, h4, h5⟩ := matB_iff.1 (place_is hp)
  have hl := (matB_lt (place_is hp)).2
  have e : ts = ts.take i ++ a :: b :: ts.drop (i + 2) := by
    conv => lhs; rw [← List.take_append_drop i ts]
    congr 1
    have g1 : i < ts.length := by omega
    have g2 : i + 1 < ts.length := by omega
    rw [List.drop_eq_getElem_cons g1, List.drop_eq_getElem_cons g2]
    rw [List.getElem?_eq_getElem g1] at h2
    rw [List.getElem?_eq_getElem g2] at h3
    cases h2
    cases h3
    rfl
  have e2 : ts.map (bytV t) = (ts.take i).map (bytV t) ++ ([bytV t a, bytV t b] ++ (ts.drop (i + 2)).map (bytV t)) := by
    conv => lhs; rw [e]
    rw [List.map_append]
    rfl
  have e3 : (mgT ts i r).map (bytV t) = (ts.take i).map (bytV t) ++ ([bytV t (256 + (r : Int))] ++ (ts.drop (i + 2)).map (bytV t)) := by
    unfold mgT
    rw [List.map_append]
    rfl
  rw [e2, e3, catB_app, catB_app, catB_app, catB_app, byt_merge ht h1, h4, h5]
  have c1 : ∀ x : ByteArray, catB [x] = x := fun x => by show (⟨#[]⟩ : ByteArray) ++ x = x; exact ByteArray.empty_append
  have c2 : ∀ x y : ByteArray, catB [x, y] = x ++ y := fun x y => by show ((⟨#[]⟩ : ByteArray) ++ x) ++ y = x ++ y; rw [show ((⟨#[]⟩ : ByteArray) ++ x) = x from ByteArray.empty_append]
  rw [c1, c2]

end Go.Proofs.Ytdggkcohidijcaa
