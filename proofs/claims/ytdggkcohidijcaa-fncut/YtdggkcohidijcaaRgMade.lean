/- A region that draws and makes memory, with operations that come up in any order: two that may come up next; facts that hold to the end. -/
import Derived.Test.YtdggkcohidijcaaRgCut
namespace Go.Proofs.Ytdggkcohidijcaa
open Go.RowKit
set_option linter.unusedVariables false

section made
variable {P : Program} {ops : Array Oper} {Q : Exit → Act → World → Prop}

theorem wpAnyL_less {f : Fact} {fs : List Fact} : ∀ (fuel : Nat) (listed : Array Bool) (a : Act) (w : World), wpAnyL P ops Q (f :: fs) fuel listed a w → wpAnyL P ops Q fs fuel listed a w
  | 0, _, _, _, h => h
  | fuel + 1, _, _, _, h => ⟨h.1, fun i hi => wpOp_mono (fun a' w' h' => ⟨fun x hx => h'.1 x (List.mem_cons_of_mem _ hx), wpAnyL_less fuel _ a' w' h'.2⟩) (h.2 i hi)⟩

theorem At.more {fs : List Fact} {fuel : Nat} {listed : Array Bool} {a : Act} {w : World} (f : Fact) (hf : f.Y w) (h : At P ops Q (f :: fs) fuel listed a w) : At P ops Q fs fuel listed a w :=
  ⟨fun hcl hH => wpAnyL_less _ _ _ _ (h.go hcl (held_cons (.inr hf) hH))⟩

theorem At.two {fs : List Fact} {fuel : Nat} {listed : Array Bool} {a : Act} {w : World} (i j : Nat) (di dj : Option Tmp) {oi oj : Oper} (hoi : ops[i]? = some oi) (hoj : ops[j]? = some oj) (hdi : oi.dst = di) (hdj : oj.dst = dj)
    (hr : Region.ready .any ops listed = [i, j]) (hwi : Region.wanted oi (yielded ops a.tmps) = true) (hwj : Region.wanted oj (yielded ops a.tmps) = true) (Ri Rj : Value → World → Prop) (hgi : gives P oi a.eval w Ri) (hgj : gives P oj a.eval w Rj)
    (hi : ∀ u w', Ri u w' → Held fs (listed.setIfInBounds i true) w' ∧ At P ops Q fs fuel (listed.setIfInBounds i true) (a.put di u) w')
    (hj : ∀ u w', Rj u w' → Held fs (listed.setIfInBounds j true) w' ∧ At P ops Q fs fuel (listed.setIfInBounds j true) (a.put dj u) w') : At P ops Q fs (fuel + 1) listed a w := by
  subst hdi
  subst hdj
  refine ⟨fun hcl hH => ⟨fun h0 => (by rw [hr] at h0; cases h0), fun k hk => ?_⟩⟩
  have hk' := hk
  rw [hr] at hk
  simp only [List.mem_cons, List.not_mem_nil, or_false] at hk
  rcases hk with rfl | rfl
  · unfold wpOp
    simp only [hoi]
    rw [if_pos hwi]
    exact .inl (hgi.wp fun u w' hR => ⟨(hi u w' hR).1, (hi u w' hR).2.go (hcl.more hk') (hi u w' hR).1⟩)
  · unfold wpOp
    simp only [hoj]
    rw [if_pos hwj]
    exact .inl (hgj.wp fun u w' hR => ⟨(hj u w' hR).1, (hj u w' hR).2.go (hcl.more hk') (hj u w' hR).1⟩)

theorem ever {fs : List Fact} {l : Array Bool} {w : World} {f : Fact} (hcl : Closed ops l) (hH : Held fs l w) (hm : f ∈ fs) (hg : decide (ops.size ≤ f.g) = true) : f.Y w := by
  rcases hH f hm with h | h
  · exfalso
    have h1 : ops.size ≤ f.g := of_decide_eq_true hg
    have h2 : ¬ f.g < l.size := by have := hcl.1; omega
    simp [Array.getD, h2] at h
  · exact h

theorem yl_run_ever {fs : List Fact} {o : Oper} {a : Act} {i : Nat} (g : Nat) (x : Sem Value) (v : Value) (hm : (⟨g, fun W => x.run P W = .ok v W⟩ : Fact) ∈ fs) (hg : decide (ops.size ≤ g) = true) (hw : Region.wanted o (yielded ops a.tmps) = true)
    (hv : ∀ w, (execOp a.eval o).run P w = (x >>= fun u => pure (Next.value u) : Sem Next).run P w) : YieldsIf P ops (fun w => ∃ l, Closed ops l ∧ l.getD i true = false ∧ Held fs l w) o v a := by
  refine .inl ⟨hw, fun w ⟨l, hcl, hun, hH⟩ => ?_⟩
  have h' : x.run P w = .ok v w := ever hcl hH hm hg
  rw [hv w, Sem.run_bind, h']
  rfl

theorem yl_load_ever {fs : List Fact} {o : Oper} {a : Act} {i : Nat} (g : Nat) (p : Addr) (v : Value) (hm : (⟨g, fun W => W.cell? p = some v⟩ : Fact) ∈ fs) (hg : decide (ops.size ≤ g) = true) (hw : Region.wanted o (yielded ops a.tmps) = true)
    (hv : ∀ w, (execOp a.eval o).run P w = ((load p) >>= fun u => pure (Next.value u) : Sem Next).run P w) : YieldsIf P ops (fun w => ∃ l, Closed ops l ∧ l.getD i true = false ∧ Held fs l w) o v a := by
  refine .inl ⟨hw, fun w ⟨l, hcl, hun, hH⟩ => ?_⟩
  have h' : w.cell? p = some v := ever hcl hH hm hg
  rw [hv w, Sem.run_bind, run_load, h']
  rfl

theorem yl_sum {fs : List Fact} {o : Oper} {v : Value} {a : Act} {i : Nat} (x : Sem Value) (hx : ∀ w, x.run P w = .ok v w) (hw : Region.wanted o (yielded ops a.tmps) = true) (hv : ∀ w, (execOp a.eval o).run P w = (x >>= fun u => pure (Next.value u) : Sem Next).run P w) : YieldsIf P ops (fun w => ∃ l, Closed ops l ∧ l.getD i true = false ∧ Held fs l w) o v a :=
  .inl ⟨hw, fun w _ => by rw [hv w, Sem.run_bind, hx w]; rfl⟩
end made

end Go.Proofs.Ytdggkcohidijcaa
