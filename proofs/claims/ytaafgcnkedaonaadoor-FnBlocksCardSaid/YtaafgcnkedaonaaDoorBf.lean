/- What is proved: what the plain functions tell of the texts that the law FnBlocks makes of a drawn name and of what its lines are moved in by. -/
import Derived.Test.YtaafgcnkedaonaaDoorBt
import Derived.Test.YtaafgcnkedaonaaDoorDrN
namespace Go.Proofs.YtaafgcnkedaonaaDoor

def ins : List ByteArray := [⟨#[32]⟩, ⟨#[32, 32]⟩, ⟨#[9]⟩, ⟨#[32, 32, 32, 32, 32, 32]⟩]
def fRaw (s i : ByteArray) : ByteArray := ⟨#[10]⟩ ++ i ++ s ++ ⟨#[10, 10]⟩ ++ i ++ ⟨#[32, 32]⟩ ++ s ++ ⟨#[120, 13, 10]⟩ ++ i ++ ⟨#[121, 13]⟩ ++ i ++ ⟨#[10, 32, 32]⟩
def fWant (s : ByteArray) : ByteArray := s ++ ⟨#[10, 10, 32, 32]⟩ ++ s ++ ⟨#[120, 10, 121]⟩
def fBlock (s i : ByteArray) : ByteArray := ⟨#[34, 34, 34]⟩ ++ fRaw s i ++ ⟨#[34, 34, 34]⟩
def fTwo (s : ByteArray) : ByteArray := ⟨#[34, 34, 34]⟩ ++ s ++ ⟨#[32, 92, 34, 34, 34, 32, 34, 122, 34, 34, 34]⟩
def fTwoWant (s : ByteArray) : ByteArray := s ++ ⟨#[32, 34, 34, 34, 32, 34, 122]⟩
def fMore (s i : ByteArray) : ByteArray := ⟨#[34, 34, 34]⟩ ++ fRaw s i ++ ⟨#[34, 34, 34, 120]⟩

theorem two_facts : ∀ s ∈ names, btx (fTwo s) = (ls (fTwoWant s), true) ∧ (fTwo s).size ≤ 1000 := by decide +kernel
theorem raw_facts : ∀ s ∈ names, ∀ i ∈ ins, btx (fBlock s i) = (ls (fWant s), true) ∧ bv (ls (fRaw s i)) = ls (fWant s) ∧ (ln (ls (fRaw s i))).length = 7 ∧ ind (ls (i ++ s)) = i.size ∧ bend (fMore s i) 0 = ((fRaw s i).size : Int) + 6 ∧ (fBlock s i).size ≤ 1000 ∧ (fRaw s i).size ≤ 1000 ∧ (i ++ s).size ≤ 1000 ∧ (fMore s i).size ≤ 1000 := by decide +kernel
theorem name_size : ∀ s ∈ names, s.size ≤ 5 := by decide +kernel
theorem in_size : ∀ i ∈ ins, i.size ≤ 6 := by decide +kernel
end Go.Proofs.YtaafgcnkedaonaaDoor
