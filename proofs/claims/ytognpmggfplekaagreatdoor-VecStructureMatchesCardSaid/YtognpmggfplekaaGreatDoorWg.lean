/-
  Monotonicity of Resize, Concat, Repeat, Slice and Put. Mathematics, no conditions.
-/
import Derived.Test.YtognpmggfplekaaGreatDoorW9
namespace Go.Proofs.YtognpmggfplekaaGreatDoor
open Go Go.RowKit

theorem ext_mo {a c : V} (h : Rfn a c) (i : Nat) : ext a i ∈ L4 ∧ ext c i ∈ L4 ∧ leqB (ext a i) (ext c i) = true := by
  have hf := fill_rfn h
  rw [nrm_of h.oa, nrm_of h.oc] at hf
  unfold ext
  rw [← h.len]
  split
  · exact ⟨four h.oa h.na i, four h.oc h.nc i, h.bitAll i⟩
  · exact hf
theorem mo_res {a c : V} (h : Rfn a c) (m : Int) : belV (resV a m) (resV c m) = true := by
  unfold resV
  split
  · rw [nrm_of h.oa, nrm_of h.oc]
    unfold fitV
    rw [← h.s]
    exact bel_tab fun i _ => mono_buf _ (ext_mo h i).1 _ (ext_mo h i).2.1 (ext_mo h i).2.2
  · exact bel_refl _
theorem mo_sl {a c : V} (h : Rfn a c) (hi lo : Int) : belV (slV a hi lo) (slV c hi lo) = true := by
  unfold slV
  split
  · rw [nrm_of h.oa, nrm_of h.oc]
    exact bel_tab fun i _ => atI_mo h.len (four h.oa h.na) (four h.oc h.nc) h.bitAll _ (by decide) (by decide) (by decide)
  · exact bel_refl _
theorem fit_mo {a c : V} (h : Rfn a c) (N i : Nat) : nth (fitV a N).l i ∈ L4 ∧ nth (fitV c N).l i ∈ L4 ∧ leqB (nth (fitV a N).l i) (nth (fitV c N).l i) = true := by
  unfold fitV
  by_cases hi : i < N
  · rw [nth_tab _ hi, nth_tab _ hi]; exact ext_mo h i
  · rw [nth_out (by rw [tab_len]; omega), nth_out (by rw [tab_len]; omega)]; exact ⟨by decide, by decide, by decide⟩
theorem mo_put {a b c d : V} (h : Rfn a c) (k : Rfn b d) (hi lo : Int) : belV (putV a hi lo b) (putV c hi lo d) = true := by
  unfold putV
  split
  · rw [nrm_of h.oa, nrm_of h.oc, nrm_of k.oa, nrm_of k.oc, ← h.s, ← h.len]
    refine bel_tab fun i _ => ?_
    unfold ptF
    split
    · exact mono_buf _ (four h.oa h.na i) _ (four h.oc h.nc i) (h.bitAll i)
    · have := fit_mo k (spW hi lo).toNat (i - lo).toNat
      exact mono_buf _ this.1 _ this.2.1 this.2.2
  · exact bel_refl _
theorem mo_re {a c : V} (h : Rfn a c) (m : Int) : reE a m = reE c m ∧ belV (reV a m) (reV c m) = true := by
  have e : reE a m = reE c m := by
    unfold reE
    rw [nrm_of h.oa, nrm_of h.oc, h.len]
  refine ⟨e, ?_⟩
  unfold reV
  rw [e]
  split
  · rw [nrm_of h.oa, nrm_of h.oc, ← h.len]
    exact bel_tab fun i _ => mono_buf _ (four h.oa h.na _) _ (four h.oc h.nc _) (h.bitAll _)
  · exact bel_refl _
theorem cat_mo {u v : Nat → V} : ∀ l : List Nat, (∀ j ∈ l, Rfn (u j) (v j)) → (catL u l).length = (catL v l).length ∧ ∀ i, nth (catL u l) i ∈ L4 ∧ nth (catL v l) i ∈ L4 ∧ leqB (nth (catL u l) i) (nth (catL v l) i) = true
  | [], _ => ⟨rfl, fun _ => ⟨by simp [catL, nth, L4], by simp [catL, nth, L4], leqB_refl _⟩⟩
  | j :: l, H => by
    have h := H j List.mem_cons_self
    obtain ⟨h1, h2⟩ := cat_mo l fun q hq => H q (List.mem_cons_of_mem _ hq)
    have e : ∀ z : Nat → V, catL z (j :: l) = (nrm (z j)).l ++ catL z l := fun z => by simp [catL]
    rw [e, e, nrm_of h.oa, nrm_of h.oc]
    refine ⟨by rw [List.length_append, List.length_append, h.len, h1], fun i => ?_⟩
    by_cases hi : i < (u j).l.length
    · rw [nth_app1 _ _ hi, nth_app1 _ _ (by rw [← h.len]; exact hi)]
      exact ⟨four h.oa h.na i, four h.oc h.nc i, h.bitAll i⟩
    · rw [nth_app2 _ _ (by omega), nth_app2 _ _ (by rw [← h.len]; omega), ← h.len]
      exact h2 _
theorem mem_dn {n k j : Nat} (h : j ∈ dn n k) (hn : 0 < n) : j < n := by
  unfold dn at h
  obtain ⟨q, _, rfl⟩ := List.mem_map.1 h
  omega
theorem mo_co {u v : Nat → V} {n : Nat} (H : ∀ j, j < n → Rfn (u j) (v j)) : coE n u = coE n v ∧ belV (coV n u) (coV n v) = true := by
  by_cases hn : n = 0
  · subst hn
    exact ⟨rfl, bel_refl _⟩
  · obtain ⟨h1, h2⟩ := cat_mo (dn n n) fun j hj => H j (mem_dn hj (by omega))
    have e : coE n u = coE n v := by unfold coE; rw [h1]
    refine ⟨e, ?_⟩
    unfold coV
    rw [e]
    split
    · refine (belV_iff _ _).2 ⟨rfl, h1, fun i _ => ?_⟩
      exact mono_buf _ (h2 i).1 _ (h2 i).2.1 (h2 i).2.2
    · exact bel_refl _
end Go.Proofs.YtognpmggfplekaaGreatDoor
